/-
  Our own words for memory and small facts, used by every text of this seat: bytes as values, a slice that reads as a list of bytes, what a call leaves as it was.
  A region that draws its order, each operation once: what each operation leaves in its own slot is told by a relation that no later operation unmakes; then the region is told by one step for each operation, whatever the order.
  Arrays of integers: a block whose cells are a function's values.
  Arrays of integers by value: equal ones; an array out of a slice.
  A region that draws its order, walked in the order of its text: each operation yields one value in every world that meets S, and leaves a world that meets S; the operations at the end, which wait for all others, are walked as they stand.
  Small facts that every layer's texts use: new blocks, bytes, stores of whole arrays.
  Slices of slices of bytes, with what is said of their capacities; parts joined.
  Package tollref01 (the reference), what layers 4 and above use: Same, Join, Spread.
  Moves and assignments inside a region that draws its order are carried out first.
  What a law is told of an array of integers that came in by value.
  Package wire: joined parts.
-/
import Derived.Test.YtagegigffohcbaaGreatDoorRows
import Derived.WalkKit
import Derived.WalkSpells
import Derived.WalkLawsBesides
import Derived.Deep.QuietTactic
import Derived.BigQuiet
import Derived.Lib.Hide
import Derived.Deep.Draws
import Derived.Maps.AppendAt
import Derived.Laws.OwnMore
import Derived.LaidEqlPtr
import Derived.Deep.RegionWith
import Derived.Deep.SlicePairs
import Derived.Deep.Matrix
import Derived.Deep.RegionHeld
import Derived.Deep.WholeRow
import Derived.ChangeKeysEq
import Derived.Laws.StructEq
import Derived.Deep.MidRow
import Derived.Deep.RegionHeld3
import Derived.StillTailTactics
import Derived.Laws.BitsAllLaws
import Derived.ProofKit
import Derived.OpenShut
set_option linter.unusedVariables false
set_option linter.unusedSimpArgs false
namespace Go.Proofs.YtagegigffohcbaaGreatDoor
open Go.RowKit

/-! ## numbers and tests -/
theorem bne_t {a b : Int} (h : a ≠ b) : (a != b) = true := by simp [h]
theorem bne_f {a b : Int} (h : a = b) : (a != b) = false := by simp [h]
theorem beq_t {a b : Int} (h : a = b) : (a == b) = true := by simp [h]
theorem beq_f {a b : Int} (h : a ≠ b) : (a == b) = false := by simp [h]
theorem u8_ne {x y : UInt8} (h : x ≠ y) : (x.toNat : Int) ≠ (y.toNat : Int) := fun e => h (UInt8.toNat_inj.1 (by omega))
theorem u8_lt (x : UInt8) : 0 ≤ (x.toNat : Int) ∧ (x.toNat : Int) ≤ 255 := ⟨by omega, by have := UInt8.toNat_lt x; omega⟩

/-- A byte as a value of the model. -/
def u8 (b : UInt8) : Value := .int .u8 (b.toNat : Int)
theorem u8_one (b : UInt8) : (u8 b).oneCell' = true := rfl
theorem u8s_one (l : List UInt8) : ∀ u ∈ l.map u8, u.oneCell' = true := by
  intro u hu
  obtain ⟨b, _, rfl⟩ := List.mem_map.1 hu
  rfl

theorem take_succ_eq {α : Type} {l m : List α} {k : Nat} (h : l.take k = m.take k) (hl : k < l.length) (hm : k < m.length) : (l.take (k + 1) = m.take (k + 1)) ↔ l[k] = m[k] := by
  rw [List.take_succ_eq_append_getElem hl, List.take_succ_eq_append_getElem hm, h]
  exact ⟨fun e => by simpa using List.append_cancel_left e, fun e => by rw [e]⟩

/-! ## blocks of the heap -/
theorem lt_of_some {w : World} {g : Nat} {o : Obj} (h : w.heap[g]? = some o) : g < w.heap.size := by
  rcases Nat.lt_or_ge g w.heap.size with hlt | hge
  · exact hlt
  · rw [Array.getElem?_eq_none hge] at h; cases h

/-- nothing that was there has turned -/
abbrev Ext (w w' : World) : Prop := Below w.heap.size w w'
theorem Ext.refl (w : World) : Ext w w := Below.refl _ _
theorem Ext.tr {a b c : World} (h : Ext a b) (k : Ext b c) : Ext a c := Below.trans h (Below.mono k h.size)
theorem Ext.drewN (w : World) (n : Nat) : Ext w (w.drewN n) := ⟨rfl, rfl, rfl, Nat.le_refl _, fun _ _ => rfl⟩
theorem Ext.drew (w : World) : Ext w w.drew := ⟨rfl, rfl, rfl, Nat.le_refl _, fun _ _ => rfl⟩
theorem Ext.alloc (w : World) (o : Obj) : Ext w (w.alloc o) := (Below.refl _ _).alloc (Nat.le_refl _) o
theorem Ext.get {w w' : World} (h : Ext w w') {g : Nat} {o : Obj} (hg : w.heap[g]? = some o) : w'.heap[g]? = some o := (h.block g (lt_of_some hg)).trans hg
theorem Ext.grown {w w' : World} (h : Ext w w') (row : Option Nat) : w.grownBy w' row := ⟨h.os, h.tape, h.output, h.size, fun k hk _ => h.block k hk⟩
theorem grown_get {w w' : World} {row : Option Nat} (h : w.grownBy w' row) {g : Nat} {o : Obj} (hg : w.heap[g]? = some o) (hne : row ≠ some g) : w'.heap[g]? = some o :=
  (h.block g (lt_of_some hg) (fun e => hne e.symm)).trans hg
theorem grown_tr {a b c : World} {row : Option Nat} (h : a.grownBy b row) (k : b.grownBy c row) : a.grownBy c row :=
  ⟨k.os.trans h.os, k.tape.trans h.tape, k.output.trans h.output, Nat.le_trans h.size k.size, fun i hi hne => (k.block i (Nat.lt_of_lt_of_le hi h.size) hne).trans (h.block i hi hne)⟩
theorem grown_ext {w w' : World} (h : w.grownBy w' none) : Ext w w' := ⟨h.os, h.tape, h.output, h.size, fun k hk => h.block k hk (by simp)⟩
theorem grown_new {a b c : World} {row : Option Nat} (h : Ext a b) (k : b.grownBy c row) (hr : ∀ g, row = some g → a.heap.size ≤ g) : Ext a c := Below.grown h k h.size hr
theorem grown_set {w : World} {g : Nat} (p : Addr) (hp : p.block = g) (u : Value) : w.grownBy (w.setCell p u) (some g) :=
  ⟨rfl, rfl, rfl, by simp [World.setCell], fun i _ hne => Below.heap_setCell w p u i (by rintro rfl; exact hne (by rw [hp]))⟩

/-- a block of two cells: the cells, not frozen -/
theorem cells_of {w : World} {g : Nat} {cs : Array Value} {t : TypeId} {fr : Nat × Nat} (h : w.heap[g]? = some (.cells cs t fr)) (i : Nat) : w.cell? ⟨g, i, none⟩ = cs[i]? := by simp [World.cell?, h]
theorem free_of {w : World} {g : Nat} {cs : Array Value} {t : TypeId} (h : w.heap[g]? = some (.cells cs t (0, 0))) (i : Nat) : w.frozen? ⟨g, i, none⟩ = false := by simp [World.frozen?, h]
theorem set_of {w : World} {g : Nat} {cs : Array Value} {t : TypeId} {fr : Nat × Nat} (h : w.heap[g]? = some (.cells cs t fr)) (i : Nat) (u : Value) :
    (w.setCell ⟨g, i, none⟩ u).heap[g]? = some (.cells (cs.setIfInBounds i u) t fr) := by simp [World.setCell, Array.getElem?_modify, h]
theorem new_of (w : World) (o : Obj) : (w.alloc o).heap[w.heap.size]? = some o := by show (w.heap.push o)[w.heap.size]? = _; simp

/-- a call that leaves the world as it was, inside a quiet region -/
theorem quiet_eq {P : Program} {f : FuncId} {args : Array Value} {w : World} {n : Nat} {v : Value}
    (h : Calls P f args (w.drewN n) fun e w' => e = .returned v ∧ w.drewN n = w') : Calls P f args (w.drewN n) fun e w'' => e = .returned v ∧ ∃ m, w'' = w.drewN m :=
  h.mono fun _ _ ⟨he, hm⟩ => ⟨he, n, hm.symm⟩

/-! ## a slice of bytes -/
/-- A slice of bytes, wherever it lies, reads as the list l; its block and the block's type meet S. -/
def RB (w : World) (S : Nat → TypeId → Prop) (A : Option Addr) (l : List UInt8) : Prop :=
  0 < l.length → ∃ g off cs t fr, A = some ⟨g, off, none⟩ ∧ w.heap[g]? = some (.cells cs t fr) ∧ S g t ∧
    ∀ j b, l[j]? = some b → cs[off + j]? = some (u8 b)

section
variable {w w' : World} {S S' : Nat → TypeId → Prop} {A : Option Addr} {l : List UInt8}
theorem RB.nil (w : World) (S : Nat → TypeId → Prop) (A : Option Addr) : RB w S A [] := fun h => absurd h (by simp)
theorem RB.cell (h : RB w S A l) {k : Nat} (hk : k < l.length) :
    ∃ g off, A = some ⟨g, off, none⟩ ∧ w.cell? ⟨g, off + k, none⟩ = some (.int .u8 ((l[k]).toNat : Int)) := by
  obtain ⟨g, off, cs, t, fr, rfl, hh, _, hc⟩ := h (by omega)
  exact ⟨g, off, rfl, by rw [cells_of hh]; exact hc k _ (List.getElem?_eq_getElem hk)⟩
/-- carried to a later world where the blocks that S allows are as they were -/
theorem RB.keep (h : RB w S A l) (hk : ∀ g o, w.heap[g]? = some o → (∃ cs t fr, o = .cells cs t fr ∧ S g t) → w'.heap[g]? = some o) : RB w' S A l := by
  intro hl
  obtain ⟨g, off, cs, t, fr, rfl, hh, hs, hc⟩ := h hl
  exact ⟨g, off, cs, t, fr, rfl, hk g _ hh ⟨cs, t, fr, rfl, hs⟩, hs, hc⟩
theorem RB.inside (h : RB w S A l) : RB w (fun g t => S g t ∧ g < w.heap.size) A l := by
  intro hl
  obtain ⟨g, off, cs, t, fr, rfl, hh, hs, hc⟩ := h hl
  exact ⟨g, off, cs, t, fr, rfl, hh, ⟨hs, lt_of_some hh⟩, hc⟩
theorem RB.more (h : RB w S A l) (hS : ∀ g t, S g t → S' g t) : RB w S' A l := by
  intro hl
  obtain ⟨g, off, cs, t, fr, rfl, hh, hs, hc⟩ := h hl
  exact ⟨g, off, cs, t, fr, rfl, hh, hS g t hs, hc⟩
theorem RB.ext (h : RB w S A l) (hb : Ext w w') : RB w' S A l := h.keep fun _ _ hh _ => hb.get hh
theorem RB.grown (h : RB w S A l) {row : Option Nat} (hb : w.grownBy w' row) (hne : ∀ g t, S g t → row ≠ some g) : RB w' S A l :=
  h.keep fun _ _ hh ⟨_, _, _, _, hs⟩ => grown_get hb hh (hne _ _ hs)
theorem RB.far (h : RB w S A l) {g : Nat} {cs : Array Value} {t : TypeId} {fr : Nat × Nat} (hb : w.grownBy w' (some g)) (hg : w.heap[g]? = some (.cells cs t fr)) (hne : ∀ g', ¬ S g' t) : RB w' S A l :=
  h.keep fun g' o hh ⟨cs', t', fr', he, hs⟩ => grown_get hb hh (by
    rintro e
    injection e with e
    subst e
    rw [hg] at hh
    injection hh with hh
    rw [he] at hh
    injection hh with _ ht _
    subst ht
    exact hne _ hs)
theorem RB.take (h : RB w S A l) (k : Nat) : RB w S A (l.take k) := by
  intro hl
  obtain ⟨g, off, cs, t, fr, rfl, hh, hs, hc⟩ := h (by rw [List.length_take] at hl; omega)
  refine ⟨g, off, cs, t, fr, rfl, hh, hs, fun j b hj => hc j b ?_⟩
  rw [List.getElem?_take] at hj
  split at hj
  · exact hj
  · cases hj
theorem RB.drop (h : RB w S A l) {k cap : Nat} (hc : l.length ≤ cap) : RB w S (if cap = k then A else A.map (·.add k)) (l.drop k) := by
  intro hl
  rw [List.length_drop] at hl
  obtain ⟨g, off, cs, t, fr, rfl, hh, hs, hc'⟩ := h (by omega)
  rw [if_neg (by omega)]
  refine ⟨g, off + k, cs, t, fr, ?_, hh, hs, fun j b hj => ?_⟩
  · simp only [Option.map_some, Addr.add]
    split
    · rename_i h0; subst h0; rfl
    · rfl
  · rw [List.getElem?_drop] at hj
    rw [Nat.add_assoc]
    exact hc' _ b hj
end

/-- bytes that are written out in the text -/
theorem RB.lit (w : World) (l : List UInt8) (cs : Array Value) (t : TypeId) (h : cs.toList = l.map u8) : RB (w.alloc (.cells cs t)) (fun g t' => w.heap.size ≤ g ∧ t' = t) (some ⟨w.heap.size, 0, none⟩) l := by
  intro _
  refine ⟨_, 0, _, _, _, rfl, new_of _ _, ⟨Nat.le_refl _, rfl⟩, fun j b hj => ?_⟩
  rw [Nat.zero_add, ← Array.getElem?_toList, h, List.getElem?_map, hj]
  rfl

/-- A slice of bytes that the call itself made, from block base on. -/
def OwnB (w : World) (E : TypeId) (base : Nat) (A : Option Addr) (c : Nat) (l : List UInt8) : Prop := w.ownsRow base E 1 (.slice A l.length c) l.length (l.map u8)

section
variable {w w' : World} {E : TypeId} {base c : Nat} {A : Option Addr} {l : List UInt8}
theorem OwnB.nil (w : World) (E : TypeId) (base : Nat) : OwnB w E base none 0 [] := World.ownsRow_nil _ _ _ _
theorem OwnB.block (h : OwnB w E base A c l) : (A = none ∧ c = 0 ∧ l = []) ∨ ∃ g cs, A = some ⟨g, 0, none⟩ ∧ base ≤ g ∧ w.heap[g]? = some (.cells cs E (0, 0)) ∧ l.length ≤ c ∧ c ≤ maxLen ∧ cs.size = c ∧
    cs.toList.take l.length = l.map u8 := by
  rcases h.2 with ⟨hv, hn⟩ | ⟨g, cap, cs, hv, hg, hh, h1, h2, h3, h4⟩
  · injection hv with ha _ hc
    exact .inl ⟨ha, hc, List.eq_nil_of_length_eq_zero hn⟩
  · injection hv with ha _ hc
    subst hc
    exact .inr ⟨g, cs, ha, hg, hh, h1, h2, by simpa using h3, by simpa using h4⟩
theorem OwnB.rb (h : OwnB w E base A c l) : RB w (fun g t => base ≤ g ∧ t = E ∧ (Value.slice A l.length c).ownBlock = some g) A l := by
  intro hl
  rcases h.block with ⟨_, _, rfl⟩ | ⟨g, cs, rfl, hg, hh, _, _, _, h4⟩
  · simp at hl
  · refine ⟨g, 0, cs, E, (0, 0), rfl, hh, ⟨hg, rfl, rfl⟩, fun j b hj => ?_⟩
    have hjl : j < l.length := (List.getElem?_eq_some_iff.1 hj).1
    have : (cs.toList.take l.length)[j]? = (l.map u8)[j]? := by rw [h4]
    rw [List.getElem?_take, if_pos hjl, List.getElem?_map, hj] at this
    simpa using this
theorem OwnB.le (h : OwnB w E base A c l) : l.length ≤ c ∧ c ≤ maxLen := by
  rcases h.block with ⟨_, rfl, rfl⟩ | ⟨_, _, _, _, _, h1, h2, _⟩
  · exact ⟨by simp, by simp [maxLen]⟩
  · exact ⟨h1, h2⟩
theorem OwnB.ge (h : OwnB w E base A c l) : ∀ g, (Value.slice A l.length c).ownBlock = some g → base ≤ g := by
  rcases h.block with ⟨rfl, _, _⟩ | ⟨g, cs, rfl, hg, _⟩
  · intro g hg; simp [Value.ownBlock] at hg
  · intro g' hg'; simp [Value.ownBlock] at hg'; omega
theorem OwnB.keep (h : OwnB w E base A c l) (hk : ∀ g o, A = some ⟨g, 0, none⟩ → base ≤ g → w.heap[g]? = some o → w'.heap[g]? = some o) : OwnB w' E base A c l := by
  refine ⟨h.1, ?_⟩
  rcases h.2 with h' | ⟨g, cap, cs, hv, hg, hh, r⟩
  · exact .inl h'
  · refine .inr ⟨g, cap, cs, hv, hg, hk g _ ?_ hg hh, r⟩
    injection hv
theorem OwnB.far (h : OwnB w E base A c l) {g : Nat} {cs : Array Value} {t : TypeId} {fr : Nat × Nat} (hb : w.grownBy w' (some g)) (hg : w.heap[g]? = some (.cells cs t fr)) (hne : t ≠ E) : OwnB w' E base A c l := by
  refine ⟨h.1, ?_⟩
  rcases h.2 with h' | ⟨g', cap, cs', hv, hg', hh, r⟩
  · exact .inl h'
  · refine .inr ⟨g', cap, cs', hv, hg', grown_get hb hh ?_, r⟩
    rintro e
    injection e with e
    subst e
    rw [hg] at hh
    injection hh with hh
    injection hh with _ ht _
    exact hne ht
theorem OwnB.ext (h : OwnB w E base A c l) (hb : Ext w w') : OwnB w' E base A c l := h.keep fun _ _ _ _ hh => hb.get hh
theorem OwnB.less {base' : Nat} (h : OwnB w E base A c l) (hb : base' ≤ base) : OwnB w E base' A c l := by
  refine ⟨h.1, ?_⟩
  rcases h.2 with h' | ⟨g, cap, cs, hv, hg, r⟩
  · exact .inl h'
  · exact .inr ⟨g, cap, cs, hv, Nat.le_trans hb hg, r⟩
end

theorem OwnB.lit {w : World} {E : TypeId} {base : Nat} (l : List UInt8) (cs : Array Value) (h : cs.toList = l.map u8) (hb : base ≤ w.heap.size) (hm : l.length ≤ maxLen) :
    OwnB (w.alloc (.cells cs E)) E base (some ⟨w.heap.size, 0, none⟩) l.length l := by
  have hs : cs.size = l.length := by rw [← Array.length_toList, h, List.length_map]
  refine ⟨by simp, .inr ⟨w.heap.size, l.length, cs, rfl, hb, new_of _ _, Nat.le_refl _, hm, by simpa using hs, ?_⟩⟩
  rw [h, List.take_of_length_le (by simp)]

/-! ## a byte is stored into a row of the call's own -/
section
variable {w w' : World} {E : TypeId} {base c g : Nat} {l : List UInt8}
theorem OwnB.cellAt (h : OwnB w E base (some ⟨g, 0, none⟩) c l) {j : Nat} (hj : j < l.length) : w.cell? ⟨g, j, none⟩ = some (.int .u8 ((l[j]).toNat : Int)) := by
  have := World.ownsRow.cellAt h j (by omega)
  rw [this, List.getElem?_map, List.getElem?_eq_getElem hj]
  rfl
theorem OwnB.freeAt (h : OwnB w E base (some ⟨g, 0, none⟩) c l) (j : Nat) : w.frozen? ⟨g, j, none⟩ = false := World.ownsRow.frozenAt h j
theorem OwnB.set_ (h : OwnB w E base (some ⟨g, 0, none⟩) c l) (j : Nat) (b : UInt8) : OwnB (w.setCell ⟨g, j, none⟩ (.int .u8 (b.toNat : Int))) E base (some ⟨g, 0, none⟩) c (l.set j b) := by
  have := (World.ownsRow.stored h j (u8 b)).1
  unfold OwnB
  rw [List.length_set, List.map_set]
  exact this
theorem OwnB.at_ (h : OwnB w E base (some ⟨g, 0, none⟩) c l) : base ≤ g ∧ g < w.heap.size := by
  rcases h.block with ⟨hA, _⟩ | ⟨g', cs, hA, hb, hh, _⟩
  · cases hA
  · injection hA with hA
    injection hA with hA
    subst hA
    exact ⟨hb, lt_of_some hh⟩
theorem made_bytes (n : Nat) : (madeCells (Value.int .u8 0).cells (n * 1)).toList = (List.replicate n (0 : UInt8)).map u8 := by
  rw [show (Value.int .u8 0).cells = #[.int .u8 0] from rfl, toList_madeCells_one, Nat.mul_one, List.map_replicate]
  rfl
end

/-! ## what a law is told of its arguments -/
/-- A slice of integers that came in: nil, or a row of 'cap' cells, of which the first 'len' are its elements. -/
def IsRow (k : IntKind) (w : World) (a : Option Addr) (len cap : Nat) (zs : List Int) : Prop :=
  (a = none ∧ len = 0 ∧ cap = 0 ∧ zs = []) ∨
  ∃ x, a = some x ∧ len ≤ cap ∧ cap ≤ maxLen ∧ zs.length = cap ∧ (∀ i, i < zs.length → w.cell? (x.add i) = some (.int k (zs.getD i 0))) ∧ ∀ n ∈ zs, (Lit.int k n).wf = true
theorem bd_i64 {n : Int} (h : (Lit.int .i64 n).wf = true) : -9223372036854775808 ≤ n ∧ n ≤ 9223372036854775807 := by simpa [Lit.wf, IntKind.min, IntKind.max, IntKind.signed, IntKind.bits] using h
theorem bd_u64 {n : Int} (h : (Lit.int .u64 n).wf = true) : 0 ≤ n ∧ n ≤ 18446744073709551615 := by simpa [Lit.wf, IntKind.min, IntKind.max, IntKind.signed, IntKind.bits] using h
theorem bd_u32 {n : Int} (h : (Lit.int .u32 n).wf = true) : 0 ≤ n ∧ n ≤ 4294967295 := by simpa [Lit.wf, IntKind.min, IntKind.max, IntKind.signed, IntKind.bits] using h
theorem bd_u8 {n : Int} (h : (Lit.int .u8 n).wf = true) : 0 ≤ n ∧ n ≤ 255 := by simpa [Lit.wf, IntKind.min, IntKind.max, IntKind.signed, IntKind.bits] using h
theorem addr_add (x : Addr) (i : Nat) : (x.add i).block = x.block ∧ (x.spot = none → x.add i = ⟨x.block, x.off + i, none⟩) := by
  unfold Addr.add
  split
  · rename_i h
    subst h
    exact ⟨rfl, fun h => by cases x; simp_all⟩
  · exact ⟨rfl, fun h => by cases x; simp_all⟩
theorem addr_add0 (x : Addr) : x.add 0 = x := by simp [Addr.add]
theorem row_bytes {w : World} {a : Option Addr} {len cap : Nat} {zs : List Int} (h : IsRow .u8 w a len cap zs) : ∃ l : List UInt8, l.length = len ∧ l.length ≤ cap ∧ cap ≤ maxLen ∧ RB w (fun g _ => g < w.heap.size) a l := by
  rcases h with ⟨rfl, rfl, rfl, rfl⟩ | ⟨x, rfl, hl, hm, hz, hc, hw⟩
  · exact ⟨[], rfl, by simp, by simp [maxLen], RB.nil _ _ _⟩
  · refine ⟨(zs.take len).map (fun z => UInt8.ofNat z.toNat), by simp; omega, by simp; omega, hm, fun hp => ?_⟩
    simp only [List.length_map, List.length_take] at hp
    have h0 := hc 0 (by omega)
    rw [addr_add0] at h0
    cases hs : x.spot with
    | some q =>
      have : x.spot.isSome := by simp [hs]
      unfold World.cell? at h0
      split at h0
      · rw [if_pos this] at h0; cases h0
      · cases h0
    | none =>
      cases hh : w.heap[x.block]? with
      | none => simp [World.cell?, hh] at h0
      | some o =>
        cases o with
        | cells cs t fr =>
          refine ⟨x.block, x.off, cs, t, fr, ?_, hh, lt_of_some hh, fun j b hj => ?_⟩
          · cases x; simp_all
          · rw [List.getElem?_map] at hj
            obtain ⟨z, hz1, rfl⟩ := Option.map_eq_some_iff.1 hj
            rw [List.getElem?_take] at hz1
            split at hz1
            · rename_i hjl
              have hjz : j < zs.length := by omega
              have hcj := hc j hjz
              rw [(addr_add x j).2 hs, cells_of hh] at hcj
              rw [hcj]
              have e : zs.getD j 0 = z := by rw [List.getD_eq_getElem?_getD, hz1]; rfl
              rw [e]
              have hb := bd_u8 (hw z (List.mem_of_getElem? hz1))
              unfold u8
              rw [UInt8.toNat_ofNat']
              congr 2
              omega
            · cases hz1
        | _ => simp [World.cell?, hh] at h0

/-- where a cell is there is a block -/
theorem addr_at {w : World} {x : Addr} {v : Value} (h : w.cell? x = some v) : x.spot = none ∧ ∃ cs t fr, w.heap[x.block]? = some (.cells cs t fr) := by
  cases hh : w.heap[x.block]? with
  | none => simp [World.cell?, hh] at h
  | some o =>
    cases o with
    | cells cs t fr =>
      refine ⟨?_, cs, t, fr, rfl⟩
      cases hs : x.spot with
      | none => rfl
      | some q => simp [World.cell?, hh, hs] at h
    | _ => simp [World.cell?, hh] at h
/-- A slice of structs of two numbers. -/
def RP (w : World) (A : Option Addr) (ps : List (Int × Int)) : Prop :=
  0 < ps.length → ∃ g off cs t fr, A = some ⟨g, off, none⟩ ∧ w.heap[g]? = some (.cells cs t fr) ∧
    ∀ j p, ps[j]? = some p → cs[off + j * 2]? = some (.int .i64 p.1) ∧ cs[off + (j * 2 + 1)]? = some (.int .i64 p.2)
theorem RP.ext {w w' : World} {A : Option Addr} {ps : List (Int × Int)} (h : RP w A ps) (hb : Ext w w') : RP w' A ps := by
  intro hl
  obtain ⟨g, off, cs, t, fr, rfl, hh, hc⟩ := h hl
  exact ⟨g, off, cs, t, fr, rfl, hb.get hh, hc⟩
theorem RP.cell {w : World} {A : Option Addr} {ps : List (Int × Int)} (h : RP w A ps) {k : Nat} (hk : k < ps.length) :
    ∃ g off, A = some ⟨g, off, none⟩ ∧ ∀ w', Ext w w' → w'.cell? ⟨g, off + k * 2, none⟩ = some (.int .i64 (ps[k]).1) ∧ w'.cell? ⟨g, off + k * 2 + 1, none⟩ = some (.int .i64 (ps[k]).2) := by
  obtain ⟨g, off, cs, t, fr, rfl, hh, hc⟩ := h (by omega)
  obtain ⟨h1, h2⟩ := hc k _ (List.getElem?_eq_getElem hk)
  exact ⟨g, off, rfl, fun w' hx => ⟨by rw [cells_of (hx.get hh)]; exact h1, by rw [cells_of (hx.get hh)]; exact h2⟩⟩
/-- What a law is told of a slice of pairs of numbers that came in. -/
def IsPairs (w : World) (a : Option Addr) (len cap : Nat) (ps : List (Int × Int)) : Prop :=
  ps.length = len ∧ len ≤ cap ∧ cap ≤ maxLen ∧ RP w a ps ∧ ∀ p ∈ ps, (-9223372036854775808 ≤ p.1 ∧ p.1 ≤ 9223372036854775807) ∧ (-9223372036854775808 ≤ p.2 ∧ p.2 ≤ 9223372036854775807)
open Go.Deep in
theorem open_pairs {H : Type} {enc : TypeId × Value → H} {P : Program} {w : World} {base : Nat} {held : Bool} {t e i : TypeId} {f0 f1 : Field} {fuel : Nat} {a : Option Addr} {len cap : Nat} {x : DataW H × List MemPlace}
    (ht : P.underlying t = some (.slice e)) (he : P.underlying e = some (.struct #[f0, f1])) (ce : P.cellsOf e = 2) (o0 : f0.offset = 0) (o1 : f1.offset = 1) (c0 : P.cellsOf f0.type = 1) (c1 : P.cellsOf f1.type = 1)
    (t0 : f0.type = i) (t1 : f1.type = i) (hi : P.underlying i = some (.int .i64))
    (h : DataW.trod enc P w base (fun _ => true) held fuel t [.slice a len cap] = some x) : ∃ ps, IsPairs w a len cap ps := by
  rcases open_slice_pairs ht he ce o0 o1 c0 c1 h with ⟨hcs, _⟩ | ⟨y, len', cap', m, n, V0, V1, D0, D1, P0, P1, hcs, _, hl, hm, hmm, _, hc⟩
  · simp at hcs
    obtain ⟨rfl, rfl, rfl⟩ := hcs
    exact ⟨[], rfl, by simp, by simp [maxLen], fun h => absurd h (by simp), by simp⟩
  · simp at hcs
    obtain ⟨rfl, rfl, rfl⟩ := hcs
    rw [if_pos rfl] at hmm
    subst hmm
    have hV : ∀ i, i < len → ∃ p : Int × Int, V0 i = .int .i64 p.1 ∧ V1 i = .int .i64 p.2 ∧ (Lit.int .i64 p.1).wf = true ∧ (Lit.int .i64 p.2).wf = true := by
      intro j hj
      obtain ⟨_, _, h0, h1⟩ := hc j (by omega)
      obtain ⟨q, hq, _, hw⟩ := DataW.trod_int (by rw [t0]; exact hi) h0
      obtain ⟨r, hr, _, hw'⟩ := DataW.trod_int (by rw [t1]; exact hi) h1
      simp at hq hr
      exact ⟨(q, r), hq, hr, hw, hw'⟩
    obtain ⟨f, hf⟩ := choose_lt hV
    refine ⟨(List.range len).map f, by simp, hl, hm, fun hp => ?_, fun p hp => ?_⟩
    · simp at hp
      have hc0 := (hc 0 (by omega)).1
      rw [Nat.zero_mul, addr_add0] at hc0
      obtain ⟨hs, cs, t', fr, hh⟩ := addr_at hc0
      refine ⟨y.block, y.off, cs, t', fr, by cases y; simp_all, hh, fun j p hj => ?_⟩
      rw [List.getElem?_map] at hj
      obtain ⟨j', hj1, rfl⟩ := Option.map_eq_some_iff.1 hj
      obtain ⟨hjl, e⟩ := List.getElem?_eq_some_iff.1 hj1
      simp only [List.length_range, List.getElem_range] at hjl e
      subst e
      obtain ⟨h1, h2, _⟩ := hc j (by omega)
      obtain ⟨e1, e2, _⟩ := hf j hjl
      rw [(addr_add y _).2 hs, cells_of hh] at h1 h2
      rw [h1, h2, e1, e2]
      exact ⟨rfl, rfl⟩
    · obtain ⟨j, hj, rfl⟩ := List.mem_map.1 hp
      obtain ⟨_, _, h1, h2⟩ := hf j (List.mem_range.1 hj)
      exact ⟨bd_i64 h1, bd_i64 h2⟩

/-- A slice of slices of bytes reads as a list of lists: each row a slice that reads as its bytes. -/
def RBs (w : World) (S T : Nat → TypeId → Prop) (A : Option Addr) (ls : List (List UInt8)) : Prop :=
  0 < ls.length → ∃ g off cs t fr, A = some ⟨g, off, none⟩ ∧ w.heap[g]? = some (.cells cs t fr) ∧ S g t ∧
    ∀ j l, ls[j]? = some l → ∃ B c, cs[off + j]? = some (.slice B l.length c) ∧ RB w T B l
theorem RBs.cell {w : World} {S T : Nat → TypeId → Prop} {A : Option Addr} {ls : List (List UInt8)} (h : RBs w S T A ls) {k : Nat} (hk : k < ls.length) :
    ∃ g off B c, A = some ⟨g, off, none⟩ ∧ w.cell? ⟨g, off + k, none⟩ = some (.slice B (ls[k]).length c) ∧ RB w T B ls[k] := by
  obtain ⟨g, off, cs, t, fr, rfl, hh, _, hc⟩ := h (by omega)
  obtain ⟨B, c, h1, h2⟩ := hc k _ (List.getElem?_eq_getElem hk)
  exact ⟨g, off, B, c, rfl, by rw [cells_of hh]; exact h1, h2⟩
theorem RBs.cellx {w : World} {S T : Nat → TypeId → Prop} {A : Option Addr} {ls : List (List UInt8)} (h : RBs w S T A ls) {k : Nat} (hk : k < ls.length) :
    ∃ g off B c, A = some ⟨g, off, none⟩ ∧ (∀ w', Ext w w' → w'.cell? ⟨g, off + k, none⟩ = some (.slice B (ls[k]).length c)) ∧ (∀ w', Ext w w' → RB w' T B ls[k]) := by
  obtain ⟨g, off, cs, t, fr, rfl, hh, _, hc⟩ := h (by omega)
  obtain ⟨B, c, h1, h2⟩ := hc k _ (List.getElem?_eq_getElem hk)
  exact ⟨g, off, B, c, rfl, fun w' hx => by rw [cells_of (hx.get hh)]; exact h1, fun w' hx => h2.ext hx⟩
theorem RBs.ext {w w' : World} {S T : Nat → TypeId → Prop} {A : Option Addr} {ls : List (List UInt8)} (h : RBs w S T A ls) (hb : Ext w w') : RBs w' S T A ls := by
  intro hl
  obtain ⟨g, off, cs, t, fr, rfl, hh, hs, hc⟩ := h hl
  exact ⟨g, off, cs, t, fr, rfl, hb.get hh, hs, fun j l hj => (hc j l hj).imp fun B ⟨c, h1, h2⟩ => ⟨c, h1, h2.ext hb⟩⟩

/-- What a law is told of a slice of slices of bytes that came in. -/
def IsRows (w : World) (a : Option Addr) (len cap : Nat) (ls : List (List UInt8)) : Prop :=
  ls.length = len ∧ len ≤ cap ∧ cap ≤ maxLen ∧ RBs w (fun g _ => g < w.heap.size) (fun g _ => g < w.heap.size) a ls ∧ ∀ l ∈ ls, l.length ≤ maxLen
open Go.Deep in
theorem open_rows {H : Type} {enc : TypeId × Value → H} {P : Program} {w : World} {base : Nat} {held : Bool} {t e q : TypeId} {fuel : Nat} {a : Option Addr} {len cap : Nat} {x : DataW H × List MemPlace}
    (ht : P.underlying t = some (.slice e)) (he : P.underlying e = some (.slice q)) (hq : P.underlying q = some (.int .u8)) (ce : P.cellsOf e = 1) (cq : P.cellsOf q = 1)
    (h : DataW.trod enc P w base (fun _ => true) held fuel t [.slice a len cap] = some x) : ∃ ls, IsRows w a len cap ls := by
  rcases open_int_rows ht he hq ce cq h with ⟨hcs, _⟩ | ⟨y, len', cap', A, L, C, Z, hcs, _, hl, hm, _, hc⟩
  · simp at hcs
    obtain ⟨rfl, rfl, rfl⟩ := hcs
    exact ⟨[], rfl, by simp, by simp [maxLen], fun h => absurd h (by simp), by simp⟩
  · simp at hcs
    obtain ⟨rfl, rfl, rfl⟩ := hcs
    have hV : ∀ i, i < len → ∃ l : List UInt8, l.length = L i ∧ w.cell? (y.add i) = some (.slice (A i) l.length (C i)) ∧ RB w (fun g _ => g < w.heap.size) (A i) l ∧ l.length ≤ maxLen := by
      intro j hj
      obtain ⟨h1, h2, h3, h4, h5, h6, h7⟩ := hc j (by omega)
      have hrow : IsRow .u8 w (A j) (L j) (C j) (Z j) := by
        rcases hA : A j with _ | a'
        · have := h6 hA
          refine .inl ⟨rfl, by omega, this, List.eq_nil_of_length_eq_zero (by omega)⟩
        · exact .inr ⟨a', rfl, h2, h3, h4, fun i hi => (h7 a' hA).2 i (by omega), h5⟩
      obtain ⟨l, e1, e2, e3, e4⟩ := row_bytes hrow
      exact ⟨l, e1, by rw [e1]; exact h1, e4, Nat.le_trans e2 e3⟩
    obtain ⟨f, hf⟩ := choose_lt hV
    refine ⟨(List.range len).map f, by simp, hl, hm, fun hp => ?_, fun l hlm => ?_⟩
    · simp at hp
      have hc0 := (hc 0 (by omega)).1
      rw [addr_add0] at hc0
      obtain ⟨hs, cs, t', fr, hh⟩ := addr_at hc0
      refine ⟨y.block, y.off, cs, t', fr, by cases y; simp_all, hh, lt_of_some hh, fun j l hj => ?_⟩
      rw [List.getElem?_map] at hj
      obtain ⟨j', hj1, rfl⟩ := Option.map_eq_some_iff.1 hj
      obtain ⟨hjl, e⟩ := List.getElem?_eq_some_iff.1 hj1
      simp only [List.length_range, List.getElem_range] at hjl e
      subst e
      obtain ⟨_, h1, h2, _⟩ := hf j hjl
      rw [(addr_add y _).2 hs, cells_of hh] at h1
      exact ⟨A j, C j, h1, h2⟩
    · obtain ⟨j, hj, rfl⟩ := List.mem_map.1 hlm
      exact (hf j (List.mem_range.1 hj)).2.2.2

/-! ## append onto a slice of bytes of the call's own -/
section
variable {P : Program} (w : World)
theorem run_append_bytes (base : Nat) (t ty E : TypeId) (i : TypeInfo) (ht : P.underlying t = some (.slice E)) (hi : P.info? E = some i) (hz : i.zero = some (.int .u8 0)) (hs : i.size = 1) (hy : i.bytes = 1)
    (A : Option Addr) (c : Nat) (l : List UInt8) (hown : OwnB w E base A c l) (S : Nat → TypeId → Prop) (B : Option Addr) (d : Nat) (m : List UInt8) (hr : RB w S B m)
    (hlen : l.length + m.length ≤ 140737488355328) (hbase : base ≤ w.heap.size) :
    ∃ A' c' w', (Builtin.append_ #[t, t] ty #[.slice A l.length c, .slice B m.length d]).run P w = .ok (.slice A' (l ++ m).length c') w' ∧ OwnB w' E base A' c' (l ++ m) ∧
      w.grownBy w' (Value.slice A l.length c).ownBlock ∧ ((Value.slice A' (l ++ m).length c').ownBlock = (Value.slice A l.length c).ownBlock ∨ (Value.slice A' (l ++ m).length c').ownBlock = some w.heap.size) := by
  have hmax : l.length + m.length ≤ maxLen := by simp only [maxLen]; omega
  have shape : ∀ (v : Value) (w2 : World), w2.ownsRow base E 1 v (l.length + m.length) (l.map u8 ++ m.map u8) → ∃ A' c', v = .slice A' (l ++ m).length c' ∧ OwnB w2 E base A' c' (l ++ m) := by
    intro v w2 h
    have h' : w2.ownsRow base E 1 v (l ++ m).length ((l ++ m).map u8) := by rw [List.length_append, List.map_append]; exact h
    rcases h'.2 with ⟨rfl, hn⟩ | ⟨g, cap, cs, rfl, _⟩
    · exact ⟨none, 0, by rw [hn], by unfold OwnB; rw [hn] at h' ⊢; exact h'⟩
    · exact ⟨_, _, rfl, h'⟩
  rcases B with _ | ad
  · have hm : m = [] := by
      rcases m with _ | ⟨x, m⟩
      · rfl
      · obtain ⟨_, _, _, _, _, h, _⟩ := hr (by simp)
        cases h
    subst hm
    refine ⟨A, c, w, ?_, by simpa using hown, World.grownBy.refl w _, by simp⟩
    rcases hown.block with ⟨rfl, rfl, rfl⟩ | ⟨g, cs, rfl, hg, hh, h1, _⟩
    · simp [Builtin.append_, run_underlying ht, sizeOf, typeInfo, hi, Builtin.lenOf, Builtin.firstCells]
    · simp [Builtin.append_, run_underlying ht, sizeOf, typeInfo, hi, Builtin.lenOf, Builtin.firstCells, h1, storeCells]
  · have hcells : ∀ j u, (m.map u8)[j]? = some u → w.cell? (ad.add j) = some u := by
      intro j u hu
      rw [List.getElem?_map] at hu
      obtain ⟨b, hb, rfl⟩ := Option.map_eq_some_iff.1 hu
      have hj : j < m.length := (List.getElem?_eq_some_iff.1 hb).1
      obtain ⟨g, off, cs, t', fr, hA, hh, _, hc⟩ := hr (by omega)
      injection hA with hA
      subst hA
      have : (⟨g, off, none⟩ : Addr).add j = ⟨g, off + j, none⟩ := by
        unfold Addr.add
        split
        · rename_i h0; subst h0; rfl
        · rfl
      rw [this, cells_of hh]
      exact hc j b hb
    obtain ⟨v', w', hrun, h2, h3, _, h5⟩ := run_append_own_at (P := P) w base t ty E i (.int .u8 0) 1 1 ht hi hz hs hy rfl (by omega) (.slice A l.length c) l.length (l.map u8) hown ad m.length d (m.map u8) (by simp) hcells (u8s_one m) hmax (by omega) hbase
    obtain ⟨A', c', rfl, ho⟩ := shape v' w' h2
    exact ⟨A', c', w', hrun, ho, h3, h5⟩

/-- 'out = append(out, xs...)' at bytes -/
theorem wpList_append_bytes {ops : Array Oper} {rest : List Oper} {o : Oper} {a : Act} {Q : Exit → Act → World → Prop} (hgd : o.guard = none) (s x : Operand) (t : TypeId)
    (ho : o.op = .call { callee := .builtin .append, args := #[s, x], argTypes := #[t, t] })
    (base : Nat) (E : TypeId) (i : TypeInfo) (ht : P.underlying t = some (.slice E)) (hi : P.info? E = some i) (hz : i.zero = some (.int .u8 0)) (hsz : i.size = 1) (hy : i.bytes = 1)
    (A : Option Addr) (c : Nat) (l : List UInt8) (hs : a.eval s = .slice A l.length c) (hown : OwnB w E base A c l) (S : Nat → TypeId → Prop) (B : Option Addr) (d : Nat) (m : List UInt8) (hx : a.eval x = .slice B m.length d) (hr : RB w S B m)
    (hlen : l.length + m.length ≤ 140737488355328) (hbase : base ≤ w.heap.size)
    (h : ∀ A' c' w', OwnB w' E base A' c' (l ++ m) → w.grownBy w' (Value.slice A l.length c).ownBlock →
      ((Value.slice A' (l ++ m).length c').ownBlock = (Value.slice A l.length c).ownBlock ∨ (Value.slice A' (l ++ m).length c').ownBlock = some w.heap.size) → wpList P ops Q rest (a.put o.dst (.slice A' (l ++ m).length c')) w') : wpList P ops Q (o :: rest) a w := by
  obtain ⟨A', c', w', hrun, h2, h3, h4⟩ := run_append_bytes (P := P) w base t o.type E i ht hi hz hsz hy A c l hown S B d m hr hlen hbase
  refine wpList_plain hgd fun K hK => ?_
  unfold Oper.wp execOp
  simp only [ho, resolve, invoke, builtin, Sem.run_bind, Sem.run_pure, Result.andThen_ok, List.map_toArray, List.map_cons, List.map_nil, hs, hx, hrun]
  exact hK _ _ (h A' c' w' h2 h3 h4)
end

/-- the same inside a region that draws its order -/
theorem step_append_bytes {P : Program} (w : World) {ops : Array Oper} {o : Oper} {a : Act} {K : Act → World → Prop} {Q : Exit → Act → World → Prop} {G : Prop} (hgd : o.guard = none) (s x : Operand) (t : TypeId)
    (ho : o.op = .call { callee := .builtin .append, args := #[s, x], argTypes := #[t, t] })
    (base : Nat) (E : TypeId) (i : TypeInfo) (ht : P.underlying t = some (.slice E)) (hi : P.info? E = some i) (hz : i.zero = some (.int .u8 0)) (hsz : i.size = 1) (hy : i.bytes = 1)
    (A : Option Addr) (c : Nat) (l : List UInt8) (hs : a.eval s = .slice A l.length c) (hown : OwnB w E base A c l) (S : Nat → TypeId → Prop) (B : Option Addr) (k d : Nat) (m : List UInt8) (hx : a.eval x = .slice B k d) (hk : m.length = k) (hr : RB w S B m)
    (hlen : l.length + k ≤ 140737488355328) (hbase : base ≤ w.heap.size)
    (h : ∀ A' c' w', OwnB w' E base A' c' (l ++ m) → w.grownBy w' (Value.slice A l.length c).ownBlock →
      ((Value.slice A' (l ++ m).length c').ownBlock = (Value.slice A l.length c).ownBlock ∨ (Value.slice A' (l ++ m).length c').ownBlock = some w.heap.size) → K (a.put o.dst (.slice A' (l ++ m).length c')) w') :
    if Region.wanted o (yielded ops a.tmps) = true then Oper.wp P o a w K Q else G := by
  subst hk
  obtain ⟨A', c', w', hrun, h2, h3, h4⟩ := run_append_bytes (P := P) w base t o.type E i ht hi hz hsz hy A c l hown S B d m hr hlen hbase
  rw [if_pos (by simp [Region.wanted, hgd])]
  unfold Oper.wp execOp
  simp only [ho, resolve, invoke, builtin, Sem.run_bind, Sem.run_pure, Result.andThen_ok, List.map_toArray, List.map_cons, List.map_nil, hs, hx, hrun]
  exact h A' c' w' h2 h3 h4

/-! ## rows of values (one cell each) of the call's own -/
def OwnV (w : World) (E : TypeId) (base : Nat) (A : Option Addr) (c : Nat) (vs : List Value) : Prop := w.ownsRow base E 1 (.slice A vs.length c) vs.length vs
section
variable {w w' : World} {E : TypeId} {base c : Nat} {A : Option Addr} {vs : List Value}
theorem OwnV.nil (w : World) (E : TypeId) (base : Nat) : OwnV w E base none 0 [] := World.ownsRow_nil _ _ _ _
theorem OwnV.block (h : OwnV w E base A c vs) : (A = none ∧ c = 0 ∧ vs = []) ∨ ∃ g cs, A = some ⟨g, 0, none⟩ ∧ base ≤ g ∧ w.heap[g]? = some (.cells cs E (0, 0)) ∧ vs.length ≤ c ∧ c ≤ maxLen ∧ cs.size = c ∧ cs.toList.take vs.length = vs := by
  rcases h.2 with ⟨hv, hn⟩ | ⟨g, cap, cs, hv, hg, hh, h1, h2, h3, h4⟩
  · injection hv with ha _ hc
    exact .inl ⟨ha, hc, List.eq_nil_of_length_eq_zero hn⟩
  · injection hv with ha _ hc
    subst hc
    exact .inr ⟨g, cs, ha, hg, hh, h1, h2, by simpa using h3, by simpa using h4⟩
theorem OwnV.ge (h : OwnV w E base A c vs) : ∀ g, (Value.slice A vs.length c).ownBlock = some g → base ≤ g := by
  rcases h.block with ⟨rfl, _, _⟩ | ⟨g, cs, rfl, hg, _⟩
  · intro g hg; simp [Value.ownBlock] at hg
  · intro g' hg'; simp [Value.ownBlock] at hg'; omega
theorem OwnV.ext (h : OwnV w E base A c vs) (hb : Ext w w') : OwnV w' E base A c vs := by
  refine ⟨h.1, ?_⟩
  rcases h.2 with h' | ⟨g, cap, cs, hv, hg, hh, r⟩
  · exact .inl h'
  · exact .inr ⟨g, cap, cs, hv, hg, hb.get hh, r⟩
/-- bytes outside rows of type E are not turned by a write into such a row -/
theorem RB.ownV {S : Nat → TypeId → Prop} {B : Option Addr} {l : List UInt8} (h : RB w S B l) (ho : OwnV w E base A c vs) (hb : w.grownBy w' (Value.slice A vs.length c).ownBlock) (hS : ∀ g, ¬ S g E) : RB w' S B l := by
  rcases ho.block with ⟨rfl, _, _⟩ | ⟨g, cs, rfl, _, hh, _⟩
  · exact h.grown hb (fun _ _ _ => by simp [Value.ownBlock])
  · exact h.far hb hh hS
/-- the values of a row as rows of bytes -/
def AsRows (w : World) (T : Nat → TypeId → Prop) (vs : List Value) (ls : List (List UInt8)) : Prop :=
  vs.length = ls.length ∧ ∀ (j : Nat) (l : List UInt8), ls[j]? = some l → ∃ (B : Option Addr) (c : Nat), vs[j]? = some (Value.slice B l.length c) ∧ RB w T B l
theorem OwnV.rbs {T : Nat → TypeId → Prop} {ls : List (List UInt8)} (h : OwnV w E base A c vs) (hr : AsRows w T vs ls) : RBs w (fun _ _ => True) T A ls := by
  intro hl
  rcases h.block with ⟨_, _, rfl⟩ | ⟨g, cs, rfl, hg, hh, _, _, _, h4⟩
  · have := hr.1; simp at this; omega
  · refine ⟨g, 0, cs, E, (0, 0), rfl, hh, trivial, fun j l hj => ?_⟩
    obtain ⟨B, d, h1, h2⟩ := hr.2 j l hj
    refine ⟨B, d, ?_, h2⟩
    have hjl : j < vs.length := (List.getElem?_eq_some_iff.1 h1).1
    have : (cs.toList.take vs.length)[j]? = vs[j]? := by rw [h4]
    rw [List.getElem?_take, if_pos hjl, h1] at this
    simpa using this
theorem AsRows.nil (w : World) (T : Nat → TypeId → Prop) : AsRows w T [] [] := ⟨rfl, fun j l h => by simp at h⟩
theorem AsRows.snoc {T : Nat → TypeId → Prop} {ls : List (List UInt8)} (h : AsRows w T vs ls) {B : Option Addr} {d : Nat} {l : List UInt8} (hl : RB w T B l) : AsRows w T (vs ++ [Value.slice B l.length d]) (ls ++ [l]) := by
  refine ⟨by simp [h.1], fun j m hj => ?_⟩
  rw [List.getElem?_append] at hj
  split at hj
  · rename_i hlt
    obtain ⟨B', d', h1, h2⟩ := h.2 j m hj
    exact ⟨B', d', by rw [List.getElem?_append, if_pos (by rw [h.1]; exact hlt)]; exact h1, h2⟩
  · rename_i hge
    have hj0 : j - ls.length = 0 := by
      have := (List.getElem?_eq_some_iff.1 hj).1
      simp at this
      omega
    rw [hj0] at hj
    simp at hj
    subst hj
    have : j = vs.length := by rw [h.1]; omega
    subst this
    exact ⟨B, d, by simp, hl⟩
theorem AsRows.ext {T : Nat → TypeId → Prop} {ls : List (List UInt8)} (h : AsRows w T vs ls) (hb : Ext w w') : AsRows w' T vs ls :=
  ⟨h.1, fun j l hj => (h.2 j l hj).imp fun _ ⟨c, h1, h2⟩ => ⟨c, h1, h2.ext hb⟩⟩
theorem AsRows.ownV {T : Nat → TypeId → Prop} {us : List Value} {ls : List (List UInt8)} (h : AsRows w T us ls) (ho : OwnV w E base A c vs) (hb : w.grownBy w' (Value.slice A vs.length c).ownBlock) (hS : ∀ g, ¬ T g E) : AsRows w' T us ls :=
  ⟨h.1, fun j l hj => (h.2 j l hj).imp fun _ ⟨c, h1, h2⟩ => ⟨c, h1, h2.ownV ho hb hS⟩⟩
end

/-- 'out = append(out, x)', x of one cell -/
theorem wpList_append_one {P : Program} (w : World) {ops : Array Oper} {rest : List Oper} {o : Oper} {a : Act} {Q : Exit → Act → World → Prop} (hgd : o.guard = none) (s x : Operand) (t : TypeId)
    (ho : o.op = .call { callee := .builtin .append, args := #[s, x], argTypes := #[t, t] })
    (base : Nat) (E : TypeId) (i : TypeInfo) (z : Value) (bytes : Nat) (ht : P.underlying t = some (.slice E)) (hi : P.info? E = some i) (hz : i.zero = some z) (hsz : i.size = 1) (hy : i.bytes = bytes) (hzs : z.cells.size = 1)
    (A : Option Addr) (c : Nat) (vs : List Value) (hs : a.eval s = .slice A vs.length c) (hown : OwnV w E base A c vs) (g : Nat) (v : Value) (hx : a.eval x = .slice (some ⟨g, 0, none⟩) 1 1) (hc : w.cell? ⟨g, 0, none⟩ = some v) (h1 : v.oneCell' = true)
    (hlen : vs.length + 1 ≤ maxLen) (hbytes : (vs.length + 1) * bytes ≤ 140737488355328) (hbase : base ≤ w.heap.size)
    (h : ∀ A' c' w', OwnV w' E base A' c' (vs ++ [v]) → w.grownBy w' (Value.slice A vs.length c).ownBlock → wpList P ops Q rest (a.put o.dst (.slice A' (vs ++ [v]).length c')) w') : wpList P ops Q (o :: rest) a w := by
  obtain ⟨v', w', hrun, h2, h3, _, _⟩ := run_append_own_at (P := P) w base t o.type E i z 1 bytes ht hi hz hsz hy hzs (by omega) (.slice A vs.length c) vs.length vs hown ⟨g, 0, none⟩ 1 1 [v] rfl
    (fun j u hj => by
      match j, hj with
      | 0, hj =>
        simp at hj
        subst hj
        exact hc) (fun u hu => by simp at hu; subst hu; exact h1) hlen hbytes hbase
  have h' : w'.ownsRow base E 1 v' (vs ++ [v]).length (vs ++ [v]) := by rw [List.length_append]; exact h2
  have shape : ∃ A' c', v' = .slice A' (vs ++ [v]).length c' := by
    rcases h'.2 with ⟨rfl, hn⟩ | ⟨g, cap, cs, rfl, _⟩
    · exact ⟨none, 0, by rw [hn]⟩
    · exact ⟨_, _, rfl⟩
  obtain ⟨A', c', rfl⟩ := shape
  refine wpList_plain hgd fun K hK => ?_
  unfold Oper.wp execOp
  simp only [ho, resolve, invoke, builtin, Sem.run_bind, Sem.run_pure, Result.andThen_ok, List.map_toArray, List.map_cons, List.map_nil, hs, hx, hrun]
  exact hK _ _ (h A' c' w' h' h3)

end Go.Proofs.YtagegigffohcbaaGreatDoor

namespace Go.Proofs.YtagegigffohcbaaGreatDoor
open Go.RowKit

def dstOf (ops : Array Oper) (i : Nat) : Option Tmp := (ops[i]?).bind (·.dst)
/-- the slots are apart, and each operation waits for earlier ones alone -/
def freeOk (ops : Array Oper) : Bool := (List.range ops.size).all fun i =>
  (((ops[i]?).map fun o => o.after.all fun e => !Region.binds .any e || decide (e.on < i)).getD true) && (List.range ops.size).all fun j => i == j || dstOf ops i == none || dstOf ops i != dstOf ops j
/-- whoever writes slot d waits for operation i -/
def waits (ops : Array Oper) (i d : Nat) : Bool := (List.range ops.size).all fun j => dstOf ops j != some d || (((ops[j]?).map fun o => o.after.any fun e => Region.binds .any e && e.on == i).getD false)
/-- operation i waits for the one that writes slot d -/
def dep (ops : Array Oper) (i d : Nat) : Bool := ((ops[i]?).map fun o => o.after.any fun e => Region.binds .any e && dstOf ops e.on == some d).getD false

theorem any_mem {α : Type} {xs : Array α} {p : α → Bool} (h : xs.any p = true) : ∃ e, e ∈ xs ∧ p e = true := by
  rw [← Array.any_toList, List.any_eq_true] at h
  obtain ⟨e, he, hp⟩ := h
  exact ⟨e, Array.mem_toList_iff.1 he, hp⟩
theorem freeOk_apart {ops : Array Oper} (h : freeOk ops = true) {i j d : Nat} (hi : dstOf ops i = some d) (hj : dstOf ops j = some d) : i = j := by
  have lt : ∀ {k}, dstOf ops k = some d → k < ops.size := fun {k} hk => by
    unfold dstOf at hk
    rcases Nat.lt_or_ge k ops.size with h | h
    · exact h
    · rw [Array.getElem?_eq_none h] at hk; cases hk
  have h1 := List.all_eq_true.1 h i (List.mem_range.2 (lt hi))
  rw [Bool.and_eq_true] at h1
  have h2 := List.all_eq_true.1 h1.2 j (List.mem_range.2 (lt hj))
  rw [hi, hj] at h2
  simpa using h2
theorem freeOk_lt {ops : Array Oper} (h : freeOk ops = true) {i : Nat} {o : Oper} (ho : ops[i]? = some o) {e : Edge} (he : e ∈ o.after) (hb : Region.binds .any e = true) : e.on < i := by
  have h1 := List.all_eq_true.1 h i (List.mem_range.2 (Array.getElem?_eq_some_iff.1 ho).1)
  rw [Bool.and_eq_true, ho] at h1
  have h2 := Array.all_eq_true_iff_forall_mem.1 h1.1 e he
  rw [hb] at h2
  simpa using h2

section
variable {P : Program} {ops : Array Oper} {Q : Exit → Act → World → Prop} {S : World → Prop} {R : Nat → Value → World → Prop} {Le : World → World → Prop} {a0 : Act}

structure FInv (ops : Array Oper) (S : World → Prop) (R : Nat → Value → World → Prop) (a0 : Act) (listed : Array Bool) (a : Act) (W : World) : Prop where
  s : S W
  len : listed.size = ops.size
  size : a.tmps.size = a0.tmps.size
  defers : a.defers = a0.defers
  closed : ∀ j oj e, ops[j]? = some oj → listed.getD j true = true → e ∈ oj.after → Region.binds .any e = true → listed.getD e.on false = true
  old : ∀ d, (∀ j, listed.getD j false = true → dstOf ops j ≠ some d) → a.tmps.getD d undef = a0.tmps.getD d undef
  new : ∀ j d, listed.getD j false = true → dstOf ops j = some d → R d (a.tmps.getD d undef) W

/-- what is asked of operation i -/
def StepOk (P : Program) (ops : Array Oper) (Q : Exit → Act → World → Prop) (S : World → Prop) (R : Nat → Value → World → Prop) (Le : World → World → Prop) (a0 : Act) (i : Nat) (o : Oper) : Prop :=
  ∀ (a : Act) (W : World), S W → a.tmps.size = a0.tmps.size → (∀ d, waits ops i d = true → a.tmps.getD d undef = a0.tmps.getD d undef) → (∀ d, dep ops i d = true → R d (a.tmps.getD d undef) W) →
    (Region.wanted o (yielded ops a.tmps) = true ∧ ∀ K : Act → World → Prop, (∀ v W', S W' → Le W W' → (∀ d, o.dst = some d → R d v W') → K (a.put o.dst v) W') → Oper.wp P o a W K Q) ∨
    (Region.wanted o (yielded ops a.tmps) = false ∧ ∀ d, o.dst = some d → R d undef W)
def Steps (f : Nat → Oper → Prop) : Nat → List Oper → Prop
  | _, [] => True
  | i, o :: os => f i o ∧ Steps f (i + 1) os
theorem Steps.nil {f : Nat → Oper → Prop} {i : Nat} : Steps f i [] := trivial
theorem Steps.cons {f : Nat → Oper → Prop} {i : Nat} {o : Oper} {os : List Oper} (h : f i o) (hs : Steps f (i + 1) os) : Steps f i (o :: os) := ⟨h, hs⟩
theorem Steps.at_ {f : Nat → Oper → Prop} : ∀ {l : List Oper} {k : Nat} (_ : Steps f k l) {i : Nat} {o : Oper}, l[i]? = some o → f (k + i) o
  | [], _, _, _, _, h => by simp at h
  | _ :: _, _, hs, 0, _, h => by simp at h; subst h; exact hs.1
  | _ :: _, k, hs, i + 1, _, h => by
    have := Steps.at_ hs.2 (i := i) (by simpa using h)
    rwa [Nat.add_right_comm, Nat.add_assoc] at this

theorem put_size (a : Act) (d : Option Tmp) (v : Value) : (a.put d v).tmps.size = a.tmps.size := by
  unfold Act.put
  split <;> simp
theorem put_defers' (a : Act) (d : Option Tmp) (v : Value) : (a.put d v).defers = a.defers := by
  unfold Act.put
  split <;> rfl
theorem put_other (a : Act) (d : Option Tmp) (v : Value) {t : Nat} (h : d ≠ some t) : (a.put d v).tmps.getD t undef = a.tmps.getD t undef := by
  unfold Act.put
  split
  · rename_i d'
    have hne : d' ≠ t := fun e => h (by rw [e])
    simp only [Array.getD_eq_getD_getElem?, Array.getElem?_setIfInBounds, if_neg hne]
  · rfl
theorem put_same (a : Act) (v : Value) {t : Nat} (h : t < a.tmps.size) : (a.put (some t) v).tmps.getD t undef = v := by
  unfold Act.put
  simp only [Array.getD_eq_getD_getElem?, Array.getElem?_setIfInBounds, if_true, h, Option.getD_some]

theorem getD_set_same {listed : Array Bool} {i : Nat} (h : i < listed.size) (d : Bool) : (listed.setIfInBounds i true).getD i d = true := by
  simp only [Array.getD_eq_getD_getElem?, Array.getElem?_setIfInBounds, if_true, h, Option.getD_some]
theorem FInv.put {listed : Array Bool} {a : Act} {W W' : World} {i : Nat} {o : Oper} (hfree : freeOk ops = true) (mono : ∀ d v W W', R d v W → Le W W' → R d v W') (hin : ∀ j d, dstOf ops j = some d → d < a0.tmps.size)
    (h : FInv ops S R a0 listed a W) (ho : ops[i]? = some o) (hr : i ∈ Region.ready .any ops listed) (v : Value) (hS : S W') (hLe : Le W W') (hR : ∀ d, o.dst = some d → R d v W') :
    FInv ops S R a0 (listed.setIfInBounds i true) (a.put o.dst v) W' := by
  obtain ⟨hun, o', ho', hdep⟩ := mem_ready.1 hr
  rw [ho] at ho'
  injection ho' with ho'
  subst ho'
  have hil : i < listed.size := by rw [h.len]; exact (Array.getElem?_eq_some_iff.1 ho).1
  have hdst : dstOf ops i = o.dst := by unfold dstOf; rw [ho]; rfl
  refine ⟨hS, by simp [h.len], by rw [put_size, h.size], by rw [put_defers', h.defers], ?_, ?_, ?_⟩
  · intro j oj e hj hl he hb
    have hmono : ∀ k, listed.getD k false = true → (listed.setIfInBounds i true).getD k false = true := fun k hk => by
      by_cases e : i = k
      · subst e; exact getD_set_same hil _
      · rw [getD_set_ne false e]; exact hk
    by_cases e1 : i = j
    · subst e1
      rw [ho] at hj
      injection hj with hj
      subst hj
      exact hmono _ (hdep e he hb)
    · rw [getD_set_ne true e1] at hl
      exact hmono _ (h.closed j oj e hj hl he hb)
  · intro d hd
    have hne : o.dst ≠ some d := by rw [← hdst]; exact hd i (getD_set_same hil _)
    rw [put_other _ _ _ hne]
    refine h.old d fun j hj => hd j ?_
    by_cases e : i = j
    · subst e; exact getD_set_same hil _
    · rw [getD_set_ne false e]; exact hj
  · intro j d hj hd
    by_cases e : i = j
    · subst e
      rw [hdst] at hd
      rw [hd, put_same _ _ (by rw [h.size]; exact hin i d (by rw [hdst, hd]))]
      exact hR d hd
    · have hne : o.dst ≠ some d := fun hc => e (freeOk_apart hfree (by rw [hdst]; exact hc) hd)
      rw [put_other _ _ _ hne]
      rw [getD_set_ne false e] at hj
      exact mono _ _ _ _ (h.new j d hj hd) hLe

theorem free_go (hfree : freeOk ops = true) (mono : ∀ d v W W', R d v W → Le W W' → R d v W') (leRefl : ∀ W, Le W W) (hin : ∀ j d, dstOf ops j = some d → d < a0.tmps.size)
    (steps : ∀ i o, ops[i]? = some o → StepOk P ops Q S R Le a0 i o)
    (fin : ∀ a W, S W → a.tmps.size = a0.tmps.size → a.defers = a0.defers → (∀ d, (∀ j, dstOf ops j ≠ some d) → a.tmps.getD d undef = a0.tmps.getD d undef) → (∀ j d, dstOf ops j = some d → R d (a.tmps.getD d undef) W) → Q .normal a W) :
    ∀ (fuel : Nat) (listed : Array Bool) (a : Act) (W : World), listed.toList.count false = fuel → FInv ops S R a0 listed a W → wpAnyH P .any ops Q S fuel listed a W := by
  have finish : ∀ (listed : Array Bool) (a : Act) (W : World), FInv ops S R a0 listed a W → Region.ready .any ops listed = [] → Q .normal a W := by
    intro listed a W h hr
    have all : ∀ (n j : Nat), j < n → j < ops.size → listed.getD j true = true := by
      intro n
      induction n with
      | zero => intro j hj; omega
      | succ n ih =>
        intro j hj hjs
        by_cases hl : listed.getD j true = true
        · exact hl
        · exfalso
          have hm : j ∈ Region.ready .any ops listed := mem_ready.2 ⟨by simpa using hl, ops[j], Array.getElem?_eq_getElem hjs, fun e he hb => by
            have hlt := freeOk_lt hfree (Array.getElem?_eq_getElem hjs) he hb
            have := ih e.on (by omega) (by omega)
            have hes : e.on < listed.size := by rw [h.len]; omega
            simpa [Array.getD_eq_getD_getElem?, hes] using this⟩
          rw [hr] at hm
          cases hm
    have all' : ∀ j d, dstOf ops j = some d → listed.getD j false = true := fun j d hd => by
      have hjs : j < ops.size := by
        unfold dstOf at hd
        rcases Nat.lt_or_ge j ops.size with h | h
        · exact h
        · rw [Array.getElem?_eq_none h] at hd; cases hd
      have := all (j + 1) j (by omega) hjs
      have hes : j < listed.size := by rw [h.len]; omega
      simpa [Array.getD_eq_getD_getElem?, hes] using this
    exact fin a W h.s h.size h.defers (fun d hd => h.old d fun j _ => hd j) (fun j d hd => h.new j d (all' j d hd) hd)
  intro fuel
  induction fuel with
  | zero =>
    intro listed a W hc h
    have hr : Region.ready .any ops listed = [] := by
      refine List.eq_nil_iff_forall_not_mem.2 fun i hi => ?_
      obtain ⟨hun, o, ho, _⟩ := mem_ready.1 hi
      have hil : i < listed.size := by rw [h.len]; exact (Array.getElem?_eq_some_iff.1 ho).1
      have hm : false ∈ listed.toList := by
        rw [Array.getD_eq_getD_getElem?, Array.getElem?_eq_getElem hil, Option.getD_some] at hun
        rw [← hun]
        exact Array.getElem_mem_toList hil
      have := List.count_pos_iff.2 hm
      omega
    exact ⟨hr, finish listed a W h hr⟩
  | succ fuel ih =>
    intro listed a W hc h
    refine ⟨finish listed a W h, fun i hi => ?_⟩
    obtain ⟨hun, o, ho, hdep⟩ := mem_ready.1 hi
    have hil : i < listed.size := by rw [h.len]; exact (Array.getElem?_eq_some_iff.1 ho).1
    have hcount : (listed.setIfInBounds i true).toList.count false = fuel := by
      rw [Array.toList_setIfInBounds, List.count_set (by simpa using hil)]
      rw [Array.getD_eq_getD_getElem?, Array.getElem?_eq_getElem hil, Option.getD_some] at hun
      simp [hun, hc]
    have hdst : dstOf ops i = o.dst := by unfold dstOf; rw [ho]; rfl
    have hU : ∀ d, waits ops i d = true → a.tmps.getD d undef = a0.tmps.getD d undef := fun d hw => h.old d fun j hj hd => by
      have hjs : j < ops.size := by
        unfold dstOf at hd
        rcases Nat.lt_or_ge j ops.size with h | h
        · exact h
        · rw [Array.getElem?_eq_none h] at hd; cases hd
      have h1 := List.all_eq_true.1 hw j (List.mem_range.2 hjs)
      rw [hd, Array.getElem?_eq_getElem hjs] at h1
      have h2 : (ops[j].after.any fun e => Region.binds .any e && e.on == i) = true := by simpa using h1
      obtain ⟨e, he, hbo⟩ := any_mem h2
      rw [Bool.and_eq_true] at hbo
      obtain ⟨hb, hon⟩ := hbo
      have hon : e.on = i := by simpa using hon
      have hlj : listed.getD j true = true := by
        have hes : j < listed.size := by rw [h.len]; omega
        simpa [Array.getD_eq_getD_getElem?, hes] using hj
      have hli := h.closed j ops[j] e (Array.getElem?_eq_getElem hjs) hlj he hb
      rw [hon] at hli
      rw [Array.getD_eq_getD_getElem?, Array.getElem?_eq_getElem hil, Option.getD_some] at hli hun
      rw [hun] at hli
      cases hli
    have hD : ∀ d, dep ops i d = true → R d (a.tmps.getD d undef) W := fun d hd => by
      unfold dep at hd
      rw [ho] at hd
      have h2 : (o.after.any fun e => Region.binds .any e && dstOf ops e.on == some d) = true := hd
      obtain ⟨e, he, hbo⟩ := any_mem h2
      rw [Bool.and_eq_true] at hbo
      exact h.new e.on d (hdep e he hbo.1) (by simpa using hbo.2)
    unfold wpOp
    rw [ho]
    rcases steps i o ho a W h.s h.size hU hD with ⟨hw, hk⟩ | ⟨hw, hR⟩
    · simp only [hw, if_true]
      exact .inl (hk _ fun v W' hS hLe hR => ⟨hS, ih _ _ _ hcount (h.put hfree mono hin ho hi v hS hLe hR)⟩)
    · simp only [hw]
      exact ⟨h.s, ih _ _ _ hcount (h.put hfree mono hin ho hi undef h.s (leRefl W) hR)⟩

/-- THE REGION, whatever the order. -/
theorem region_free {id : Nat} {l : List Oper} {w : World} (S : World → Prop) (R : Nat → Value → World → Prop) (Le : World → World → Prop) (hm : P.follows .mixedOrders = true) (hfree : freeOk l.toArray = true) (hin : ((List.range l.length).all fun j => ((dstOf l.toArray j).map fun d => decide (d < a0.tmps.size)).getD true) = true)
    (mono : ∀ d v W W', R d v W → Le W W' → R d v W') (leRefl : ∀ W, Le W W) (hS : S w.drew) (steps : Steps (StepOk P l.toArray Q S R Le a0) 0 l)
    (fin : ∀ a W, S W → a.tmps.size = a0.tmps.size → a.defers = a0.defers → (∀ d, (∀ j, dstOf l.toArray j ≠ some d) → a.tmps.getD d undef = a0.tmps.getD d undef) → (∀ j d, dstOf l.toArray j = some d → R d (a.tmps.getD d undef) W) → Q .normal a W) :
    (Code.region id l.toArray true).wp P Q a0 w := by
  refine wp_region_held_drew (S := S) hm hS fun _ => ?_
  refine free_go (a0 := a0) (R := R) (Le := Le) hfree mono leRefl ?_ (fun i o ho => ?_) fin _ _ _ _ (by simp) ?_
  · intro j d hd
    have hjs : j < l.length := by
      unfold dstOf at hd
      rcases Nat.lt_or_ge j l.length with h | h
      · exact h
      · rw [Array.getElem?_eq_none (by simpa using h)] at hd; cases hd
    have := List.all_eq_true.1 hin j (List.mem_range.2 hjs)
    rw [hd] at this
    simpa using this
  · have := steps.at_ (i := i) (o := o) (by simpa using ho)
    rwa [Nat.zero_add] at this
  · refine ⟨hS, by simp, rfl, rfl, ?_, fun d _ => rfl, ?_⟩
    · intro j oj e hj hl
      have hjs : j < l.length := by have := (Array.getElem?_eq_some_iff.1 hj).1; simpa using this
      simp [Array.getD_eq_getD_getElem?, hjs] at hl
    · intro j d hl
      rw [Array.getD_eq_getD_getElem?, Array.getElem?_replicate] at hl
      split at hl <;> simp at hl
end
end Go.Proofs.YtagegigffohcbaaGreatDoor

namespace Go.Proofs.YtagegigffohcbaaGreatDoor
open Go.RowKit

/-- n cells, the values of f -/
def tabV (k : IntKind) (n : Nat) (f : Nat → Nat) : Array Value := ((List.range n).map fun i => Value.int k (f i : Nat)).toArray
section
variable {k : IntKind} {n : Nat} {f f' : Nat → Nat}
theorem tabV_size : (tabV k n f).size = n := by simp [tabV]
theorem tabV_get {i : Nat} (h : i < n) : (tabV k n f)[i]? = some (.int k (f i : Nat)) := by simp [tabV, h]
theorem tabV_get' (i : Nat) : (tabV k n f)[i]? = if i < n then some (.int k (f i : Nat)) else none := by
  split
  · exact tabV_get ‹_›
  · simp [tabV]; omega
theorem tabV_congr (h : ∀ i, i < n → f i = f' i) : tabV k n f = tabV k n f' := by
  unfold tabV
  congr 1
  exact List.map_congr_left fun i hi => by rw [h i (List.mem_range.1 hi)]
theorem tabV_ext {cs : Array Value} (hs : cs.size = n) (h : ∀ i, i < n → cs[i]? = some (.int k (f i : Nat))) : cs = tabV k n f := by
  apply Array.ext_getElem?
  intro i
  rw [tabV_get']
  split
  · exact h i ‹_›
  · rw [Array.getElem?_eq_none (by omega)]
theorem tabV_set (i v : Nat) (h : i < n) : (tabV k n f).setIfInBounds i (.int k (v : Nat)) = tabV k n (fun j => if j = i then v else f j) := by
  apply tabV_ext
  · rw [Array.size_setIfInBounds, tabV_size]
  · intro j hj
    rw [Array.getElem?_setIfInBounds, tabV_size]
    by_cases e : i = j
    · subst e; simp [h]
    · rw [if_neg e, tabV_get hj, if_neg (fun h => e h.symm)]
theorem tabV_one : (tabV k n f).all (·.oneCell') = true := by
  rw [Array.all_eq_true]
  intro i hi
  have : (tabV k n f)[i]? = some (tabV k n f)[i] := Array.getElem?_eq_getElem hi
  rw [tabV_get (by rw [tabV_size] at hi; exact hi)] at this
  injection this with this
  rw [← this]
  rfl
theorem tabV_inj (h : tabV k n f = tabV k n f') {i : Nat} (hi : i < n) : f i = f' i := by
  have h1 := tabV_get (k := k) (f := f) hi
  rw [h, tabV_get hi] at h1
  simp at h1
  omega
end

/-- block g is such an array -/
def Arr (w : World) (g : Nat) (t : TypeId) (k : IntKind) (n : Nat) (f : Nat → Nat) : Prop := w.heap[g]? = some (.cells (tabV k n f) t (0, 0))
section
variable {w w' : World} {g : Nat} {t : TypeId} {k : IntKind} {n : Nat} {f f' : Nat → Nat}
theorem Arr.cell (h : Arr w g t k n f) {i : Nat} (hi : i < n) : w.cell? ⟨g, i, none⟩ = some (.int k (f i : Nat)) := by
  unfold Arr at h; rw [cells_of h, tabV_get hi]
theorem Arr.free (h : Arr w g t k n f) (i : Nat) : w.frozen? ⟨g, i, none⟩ = false := free_of h i
theorem Arr.ext (h : Arr w g t k n f) (hx : Ext w w') : Arr w' g t k n f := hx.get h
theorem Arr.lt (h : Arr w g t k n f) : g < w.heap.size := lt_of_some h
theorem Arr.set_ (h : Arr w g t k n f) {i v : Nat} (hi : i < n) : Arr (w.setCell ⟨g, i, none⟩ (.int k (v : Nat))) g t k n (fun j => if j = i then v else f j) := by
  unfold Arr at *
  rw [set_of h, tabV_set i v hi]
theorem Arr.other {g' : Nat} (h : Arr w g t k n f) (hne : g ≠ g') (i : Nat) (u : Value) : Arr (w.setCell ⟨g', i, none⟩ u) g t k n f := by
  unfold Arr at *
  rw [Below.heap_setCell w ⟨g', i, none⟩ u g hne]
  exact h
theorem Arr.congr (h : Arr w g t k n f) (hf : ∀ i, i < n → f i = f' i) : Arr w g t k n f' := by
  unfold Arr at *
  rw [h, tabV_congr hf]
theorem Arr.new (w : World) (t : TypeId) (k : IntKind) (n : Nat) (f : Nat → Nat) : Arr (w.alloc (.cells (tabV k n f) t)) w.heap.size t k n f := new_of _ _
theorem Arr.row (h : Arr w g t k n f) (f' : Nat → Nat) : Arr (w.setRow g (tabV k n f')) g t k n f' := setRow_heap w g _ _ t _ h
theorem Arr.rowOther {g' : Nat} (h : Arr w g t k n f) (hne : g ≠ g') (cs : Array Value) : Arr (w.setRow g' cs) g t k n f := by
  unfold Arr at *
  rw [setRow_other w g' g cs hne]
  exact h
end
theorem ext_setRow {w w' : World} (h : Ext w w') {g : Nat} (hg : w.heap.size ≤ g) (cs : Array Value) : Ext w (w'.setRow g cs) :=
  h.trans ⟨rfl, rfl, rfl, by simp [World.setRow], fun k hk => setRow_other w' g k cs (by omega)⟩
theorem ext_setCell {w w' : World} (h : Ext w w') {p : Addr} (hg : w.heap.size ≤ p.block) (u : Value) : Ext w (w'.setCell p u) := h.setCell hg u
theorem grown_setRow {w : World} (g : Nat) (cs : Array Value) : w.grownBy (w.setRow g cs) (some g) :=
  ⟨rfl, rfl, rfl, by simp [World.setRow], fun i _ hne => setRow_other w g i cs (by rintro rfl; exact hne rfl)⟩
/-- zero cells, as the model lays them -/
theorem tabV_zero (k : IntKind) (n : Nat) : tabV k n (fun _ => 0) = Array.replicate n (.int k 0) := by
  apply Eq.symm
  apply tabV_ext (by simp)
  intro i hi
  simp [hi]

/-- a whole array is stored into a block that is known -/
theorem wpList_store_arr {P : Program} {w : World} {ops : Array Oper} {rest : List Oper} {o : Oper} {a : Act} {Q : Exit → Act → World → Prop} (hgd : o.guard = none) (ty : TypeId) (x y : Operand) (ho : o.op = .store ty x y)
    (g : Nat) (k : IntKind) (n : Nat) (f : Nat → Nat) (hx : a.eval x = .pointer (some ⟨g, 0, none⟩)) (hy : a.eval y = .agg (tabV k n f)) (t : TypeId) (old : Array Value) (hg : w.heap[g]? = some (.cells old t (0, 0)))
    (hi : (P.info? ty).map (·.size) = some n) (hold : old.size = n) (h : ∀ w', Arr w' g t k n f → w.grownBy w' (some g) → wpList P ops Q rest (a.put o.dst undef) w') : wpList P ops Q (o :: rest) a w :=
  wpList_store_row hgd ty x y ho g (tabV k n f) hx hy t old hg (by rw [tabV_size]; exact hi) (by rw [tabV_size]; exact hold) tabV_one (h _ (setRow_heap w g old _ t _ hg) (grown_setRow g _))
/-- a whole array is read -/
theorem wpList_load_arr {P : Program} {w : World} {ops : Array Oper} {rest : List Oper} {o : Oper} {a : Act} {Q : Exit → Act → World → Prop} (hgd : o.guard = none) (ty : TypeId) (x : Operand) (ho : o.op = .load ty x)
    (g : Nat) (hx : a.eval x = .pointer (some ⟨g, 0, none⟩)) (t : TypeId) (k : IntKind) (n : Nat) (f : Nat → Nat) (e : TypeId) (hg : Arr w g t k n f) (hu : P.underlying ty = some (.array n e)) (hi : (P.info? ty).map (·.size) = some n)
    (h : wpList P ops Q rest (a.put o.dst (.agg (tabV k n f))) w) : wpList P ops Q (o :: rest) a w :=
  wpList_load_row hgd ty x ho g hx t (tabV k n f) (0, 0) _ hg hu rfl (by rw [tabV_size]; exact hi) h
/-- an element of an array by value -/
theorem run_index_tab {P : Program} {t e : TypeId} {n : Nat} {k : IntKind} (hu : P.underlying t = some (.array n e)) (he : P.underlying e = some (.int k)) (hs : (P.info? e).map (·.size) = some 1) (f : Nat → Nat) (i : Nat) (hi : i < n) (w : World) :
    (Instr.index t (.agg (tabV k n f)) (.int .i64 (i : Int))).run P w = .ok (.int k (f i : Nat)) w := by
  cases hq : P.info? e with
  | none => simp [hq] at hs
  | some ie =>
    have hsz : ie.size = 1 := by simpa [hq] using hs
    have hc : (tabV k n f)[i]? = some (.int k (f i : Nat)) := tabV_get hi
    simp [Instr.index, asIntOf, Sem.run_bind, run_underlying hu, sizeOf, typeInfo, hq, hsz, hi, part, isAgg, run_underlying he, hc]

/-- the end of an array, as a slice -/
theorem run_slice_arr {P : Program} {t e : TypeId} {n : Nat} (hu : P.underlying t = some (.array n e)) (hs : (P.info? e).map (·.size) = some 1) (g r : Nat) (hr : r < n) (i : Int) (hi : i = r) (W : World) :
    (Instr.sliceAt t (.pointer (some ⟨g, 0, none⟩)) (some (.int .i64 i)) none none).run P W = .ok (.slice (some ⟨g, r, none⟩) (n - r) (n - r)) W := by
  subst hi
  cases hq : P.info? e with
  | none => simp [hq] at hs
  | some ie =>
    have hsz : ie.size = 1 := by simpa [hq] using hs
    have h1 : ¬ n = r := by omega
    have h2 : (r : Int) ≤ (n : Int) := by omega
    have h3 : (⟨g, 0, none⟩ : Addr).add r = ⟨g, r, none⟩ := by rw [(addr_add _ _).2 rfl, Nat.zero_add]
    simp [Instr.sliceAt, Instr.sureAddr, Sem.run_bind, run_underlying hu, Instr.sliceBounds, run_sliceBound, sizeOf, typeInfo, hq, hsz, h1, h2, h3]

end Go.Proofs.YtagegigffohcbaaGreatDoor

namespace Go.Proofs.YtagegigffohcbaaGreatDoor
open Go.RowKit

theorem run_part_tab {P : Program} {e : TypeId} {n : Nat} {k : IntKind} (he : P.underlying e = some (.int k)) (f : Nat → Nat) (i : Nat) (hi : i < n) (w : World) : (part e (tabV k n f) (i * 1)).run P w = .ok (.int k (f i : Nat)) w := by
  have hc : (tabV k n f)[i]? = some (.int k (f i : Nat)) := tabV_get hi
  simp [part, isAgg, run_underlying he, hc]
theorem run_eqItems_tab {P : Program} {e : TypeId} {n : Nat} {k : IntKind} (he : P.underlying e = some (.int k)) (f f' : Nat → Nat) (d : Nat) (w : World) (hf : ∀ i, i < n → f i = f' i) : ∀ is : List Nat, (∀ i ∈ is, i < n) →
    (Op.eqItems (d + 1) e 1 (tabV k n f) (tabV k n f') is).run P w = .ok true w
  | [], _ => by simp [Op.eqItems]
  | i :: is, h => by
    have hi := h i (by simp)
    have ih := run_eqItems_tab he f f' d w hf is (fun j hj => h j (by simp [hj]))
    simp only [Op.eqItems, Sem.run_bind, run_part_tab he f i hi, run_part_tab he f' i hi, Result.andThen_ok, run_equalIn_int w d e k k _ _ he, hf i hi]
    simpa using ih
/-- equal arrays are equal -/
theorem run_eql_tab {P : Program} {t e : TypeId} {n : Nat} {k : IntKind} (hu : P.underlying t = some (.array n e)) (he : P.underlying e = some (.int k)) (hs : (P.info? e).map (·.size) = some 1) (hc : P.cellsOf e = 1) (f f' : Nat → Nat) (hf : ∀ i, i < n → f i = f' i) (w : World) :
    (binOp .eql t (.agg (tabV k n f)) (.agg (tabV k n f'))).run P w = .ok (.bool true) w := by
  cases hq : P.info? e with
  | none => simp [hq] at hs
  | some ie =>
    rw [run_eql_struct, show (10000 : Nat) = 9999 + 1 from rfl, run_equalIn_array w 9999 _ _ hu hq, hc, show (9999 : Nat) = 9998 + 1 from rfl, run_eqItems_tab he f f' 9998 w hf _ (fun i hi => List.mem_range.1 hi)]
    rfl
/-- a slice that is long enough leads to an array -/
theorem run_arrayAt {P : Program} {t e : TypeId} {n : Nat} (hu : P.underlying t = some (.array n e)) (a : Option Addr) (len cap : Nat) (h : n ≤ len) (w : World) : (Instr.arrayAt t (.slice a len cap)).run P w = .ok (.pointer a) w := by
  have h1 : ¬ len < n := by omega
  simp [Instr.arrayAt, run_underlying hu, h1]
/-- an array, read out of a slice of bytes -/
theorem rangeAt_rb {w : World} {S : Nat → TypeId → Prop} {g off n : Nat} {l : List UInt8} (h : RB w S (some ⟨g, off, none⟩) l) (hn : n ≤ l.length) (bt : Nat → Nat) (hb : ∀ i, i < n → bt i = (l.getD i 0).toNat) (h0 : 0 < n) : w.rangeAt g off (tabV .u8 n bt).toList := by
  intro j v hj
  rw [Array.getElem?_toList, tabV_get'] at hj
  split at hj
  · rename_i hjn
    injection hj with hj
    subst hj
    obtain ⟨g', off', cs, t, fr, e, hh, _, hc⟩ := h (by omega)
    injection e with e
    injection e with e1 e2
    subst e1; subst e2
    rw [cells_of hh, hc j _ (List.getElem?_eq_getElem (by omega))]
    rw [hb j hjn, List.getD_eq_getElem?_getD, List.getElem?_eq_getElem (by omega)]
    rfl
  · cases hj
theorem wpList_load_part {P : Program} {ops : Array Oper} {rest : List Oper} {op : Oper} {a : Act} {w : World} {Q : Exit → Act → World → Prop} (hgd : op.guard = none) (ty : TypeId) (x : Operand) (ho : op.op = .load ty x)
    (g off : Nat) (hx : a.eval x = .pointer (some ⟨g, off, none⟩)) (k : IntKind) (n : Nat) (f : Nat → Nat) (e : TypeId) (hc : w.rangeAt g off (tabV k n f).toList) (hu : P.underlying ty = some (.array n e)) (hi : (P.info? ty).map (·.size) = some n)
    (h : wpList P ops Q rest (a.put op.dst (.agg (tabV k n f))) w) : wpList P ops Q (op :: rest) a w := by
  refine wpList_load_mid hgd ty x ho g off hx (tabV k n f).toList _ hc hu rfl (by rw [Array.length_toList, tabV_size]; exact hi) ?_
  rw [Array.toArray_toList]
  exact h
/-- an array that is written out -/
theorem wpList_build_tab {P : Program} {ops : Array Oper} {rest : List Oper} {o : Oper} {a : Act} {w : World} {Q : Exit → Act → World → Prop} (hg : o.guard = none) (t : TypeId) (parts : Array (Nat × Operand)) (ho : o.op = .build t parts) (k : IntKind) (n : Nat) (f : Nat → Nat)
    (hf : P.built t (parts.map fun (i, x) => (i, a.eval x)).toList = some (tabV k n f)) (h : wpList P ops Q rest (a.put o.dst (.agg (tabV k n f))) w) : wpList P ops Q (o :: rest) a w :=
  wpList_build hg t parts ho (by rw [hf]; rfl) (by rw [hf]; exact h)
/-- in a region that draws its order: a whole array is read first -/
theorem wpAnyH_take_arr {P : Program} {md : Region.Mode} {ops : Array Oper} {Q : Exit → Act → World → Prop} {S : World → Prop} {fuel : Nat} {listed : Array Bool} {a : Act} {w : World} (i : Nat) {oi : Oper} (hi : ops[i]? = some oi)
    (hs : Region.noSelect ops = true) (hf : Region.free md ops listed i = true) (hr : (Region.ready md ops listed).contains i = true) (hQ : ∀ c a v w, Q (.panic c) (a.put oi.dst v) w → Q (.panic c) a w)
    (hw : Region.wanted oi (yielded ops a.tmps) = true) (ty : TypeId) (x : Operand) (ho : oi.op = .load ty x) (g off : Nat) (hx : a.eval x = .pointer (some ⟨g, off, none⟩)) (k : IntKind) (n : Nat) (f : Nat → Nat) (e : TypeId)
    (hS : ∀ w, S w → w.rangeAt g off (tabV k n f).toList) (hu : P.underlying ty = some (.array n e)) (hz : (P.info? ty).map (·.size) = some n) (hSw : S w)
    (h : wpAnyH P md ops Q S fuel (listed.setIfInBounds i true) (a.put oi.dst (.agg (tabV k n f))) w) : wpAnyH P md ops Q S (fuel + 1) listed a w :=
  wpAnyH_take (v := .agg (tabV k n f)) hi hs hf hr (fun c a w => hQ c a _ w) (by
    have := yieldsIf_load_mid (P := P) (ops := ops) (S := S) (op := oi) (a := a) hw ty x ho g off hx (tabV k n f).toList _ hS hu rfl (by rw [Array.length_toList, tabV_size]; exact hz)
    rwa [Array.toArray_toList] at this) hSw h
theorem rangeAt_arr {V : World} {g : Nat} {t : TypeId} {k : IntKind} {n : Nat} {f : Nat → Nat} (h : Arr V g t k n f) : V.rangeAt g 0 (tabV k n f).toList := by
  intro j v hj
  rw [Array.getElem?_toList] at hj
  unfold Arr at h
  rw [cells_of h, Nat.zero_add]
  exact hj
/-- '==' at two arrays that hold the same -/
theorem wp_eql_tab {P : Program} {o : Oper} {a : Act} {w : World} {K : Act → World → Prop} {Q : Exit → Act → World → Prop} (t yt : TypeId) (x y : Operand) (ho : o.op = .binOp .eql t x y yt) (k : IntKind) (n : Nat) (f f' : Nat → Nat) (hx : a.eval x = .agg (tabV k n f)) (hy : a.eval y = .agg (tabV k n f'))
    (e : TypeId) (hu : P.underlying t = some (.array n e)) (he : P.underlying e = some (.int k)) (hs : (P.info? e).map (·.size) = some 1) (hc : P.cellsOf e = 1) (hm : P.eqGuardType P.depth t = false) (hf : ∀ i, i < n → f i = f' i)
    (h : K (a.put o.dst (.bool true)) w) : o.wp P a w K Q := by
  unfold Oper.wp execOp
  simp only [ho, hx, hy, Sem.run_bind, run_eqGuard_agg w .eql t x y _ _ hm, Result.andThen_ok, run_eql_tab hu he hs hc f f' hf w, Sem.run_pure]
  exact h
theorem step_eql_tab {P : Program} {ops : Array Oper} {o : Oper} {a : Act} {w : World} {K : Act → World → Prop} {Q : Exit → Act → World → Prop} {E : Prop} (hw : Region.wanted o (yielded ops a.tmps) = true) (t yt : TypeId) (x y : Operand) (ho : o.op = .binOp .eql t x y yt) (k : IntKind) (n : Nat) (f f' : Nat → Nat) (hx : a.eval x = .agg (tabV k n f)) (hy : a.eval y = .agg (tabV k n f'))
    (e : TypeId) (hu : P.underlying t = some (.array n e)) (he : P.underlying e = some (.int k)) (hs : (P.info? e).map (·.size) = some 1) (hc : P.cellsOf e = 1) (hm : P.eqGuardType P.depth t = false) (hf : ∀ i, i < n → f i = f' i)
    (h : K (a.put o.dst (.bool true)) w) : if Region.wanted o (yielded ops a.tmps) = true then Oper.wp P o a w K Q else E := by
  rw [if_pos hw]
  exact wp_eql_tab t yt x y ho k n f f' hx hy e hu he hs hc hm hf h
theorem wpList_eql_tab {P : Program} {ops : Array Oper} {rest : List Oper} {o : Oper} {a : Act} {w : World} {Q : Exit → Act → World → Prop} (hgd : o.guard = none) (t yt : TypeId) (x y : Operand) (ho : o.op = .binOp .eql t x y yt) (k : IntKind) (n : Nat) (f f' : Nat → Nat) (hx : a.eval x = .agg (tabV k n f)) (hy : a.eval y = .agg (tabV k n f'))
    (e : TypeId) (hu : P.underlying t = some (.array n e)) (he : P.underlying e = some (.int k)) (hs : (P.info? e).map (·.size) = some 1) (hc : P.cellsOf e = 1) (hm : P.eqGuardType P.depth t = false) (hf : ∀ i, i < n → f i = f' i)
    (h : wpList P ops Q rest (a.put o.dst (.bool true)) w) : wpList P ops Q (o :: rest) a w :=
  wpList_plain hgd fun _ hK => wp_eql_tab t yt x y ho k n f f' hx hy e hu he hs hc hm hf (hK _ _ h)
end Go.Proofs.YtagegigffohcbaaGreatDoor

namespace Go.Proofs.YtagegigffohcbaaGreatDoor
open Go.RowKit

def q4 (a b c d : Nat) : Nat → Nat := fun i => if i = 0 then a else if i = 1 then b else if i = 2 then c else d
/-- who writes a slot that operation i looks at is waited for, or waits -/
def looksOk (ops : Array Oper) (n : Nat) : Bool := (List.range n).all fun i => ((ops[i]?).map fun o => (o.looksAt ops).all fun d =>
  (List.range ops.size).all fun j => dstOf ops j != some d || (decide (j < i) && Region.waitsFor .any ops i j) || (decide (i < j) && Region.waitsFor .any ops j i)).getD true
/-- operation t waits for j, or for one that does, and so on -/
def waitsFar (ops : Array Oper) : Nat → Nat → Nat → Bool
  | 0, _, _ => false
  | f + 1, t, j => Region.waitsFor .any ops t j || (List.range t).any fun k => Region.waitsFor .any ops t k && waitsFar ops f k j
def tailOk (ops : Array Oper) (n : Nat) : Bool := (List.range ops.size).all fun t => decide (t < n) || if t = n then (List.range n).all fun j => waitsFar ops n t j else Region.waitsFor .any ops t (t - 1)
def marks (n m : Nat) : Array Bool := ((List.range (n + m)).map fun i => decide (i < n)).toArray
def ordOk (ops : Array Oper) (n m : Nat) : Bool := freeOk ops && looksOk ops n && tailOk ops n && Region.noSelect ops && Region.seqB .any ops m n (marks n m)

def tx (a : Act) : List Oper → List Value → Act
  | o :: os, v :: vs => tx (a.put o.dst v) os vs
  | _, _ => a
def noQ : Exit → Act → World → Prop := fun _ _ _ => False
def upd (L : Nat → Bool) (i : Nat) : Nat → Bool := fun j => if j = i then true else L j
theorem upd_ne {L : Nat → Bool} {i k : Nat} (h : i ≠ k) : upd L i k = L k := if_neg (fun e => h e.symm)
theorem upd_eq {L : Nat → Bool} {k : Nat} : upd L k k = true := if_pos rfl
def TxStep (P : Program) (ops : Array Oper) (S : (Nat → Bool) → World → Prop) (i : Nat) (a : Act) (o : Oper) (v : Value) : Prop :=
  ∀ L W, L i = false → S L W → if Region.wanted o (yielded ops a.tmps) = true then Oper.wp P o a W (fun a' W' => a' = a.put o.dst v ∧ S (upd L i) W') noQ else v = undef ∧ S (upd L i) W
/-- the walk; L tells which operations have come up -/
def wpTxt (P : Program) (ops : Array Oper) (S : (Nat → Bool) → World → Prop) (Qf : Act → Prop) : Nat → List Oper → Act → Prop
  | _, [], a => Qf a
  | i, o :: rest, a => ∃ v, TxStep P ops S i a o v ∧ wpTxt P ops S Qf (i + 1) rest (a.put o.dst v)
section
variable {P : Program} {ops : Array Oper} {S : (Nat → Bool) → World → Prop} {S0 : World → Prop} {Qf : Act → Prop} {k : Nat}
theorem wpTxt_stay {w : World} {a : Act} {o : Oper} {rest : List Oper} (v : Value)
    (h : ∀ (K : Act → World → Prop), K (a.put o.dst v) w → Oper.wp P o a w K noQ) (hw : Region.wanted o (yielded ops a.tmps) = true) (hr : wpTxt P ops (fun _ W => W = w) Qf (k + 1) rest (a.put o.dst v)) : wpTxt P ops (fun _ W => W = w) Qf k (o :: rest) a :=
  ⟨v, fun L W _ hS => by
    subst hS
    rw [if_pos hw]
    exact h _ ⟨rfl, rfl⟩, hr⟩
theorem wpTxt_nil {a : Act} (h : Qf a) : wpTxt P ops S Qf k [] a := h
theorem wpTxt_step {a : Act} {o : Oper} {rest : List Oper} (v : Value)
    (h : ∀ (W : World) (K : Act → World → Prop), S0 W → (∀ W', S0 W' → K (a.put o.dst v) W') → Oper.wp P o a W K noQ) (hw : Region.wanted o (yielded ops a.tmps) = true) (hr : wpTxt P ops (fun _ => S0) Qf (k + 1) rest (a.put o.dst v)) : wpTxt P ops (fun _ => S0) Qf k (o :: rest) a :=
  ⟨v, fun L W _ hS => by rw [if_pos hw]; exact h W _ hS (fun W' hS' => ⟨rfl, hS'⟩), hr⟩
theorem wpTxt_skip {a : Act} {o : Oper} {rest : List Oper} (hw : Region.wanted o (yielded ops a.tmps) = false) (hr : wpTxt P ops (fun _ => S0) Qf (k + 1) rest (a.put o.dst undef)) : wpTxt P ops (fun _ => S0) Qf k (o :: rest) a :=
  ⟨undef, fun L W _ hS => by rw [if_neg (by rw [hw]; decide)]; exact ⟨rfl, hS⟩, hr⟩
/-- one operation (number c) turns the world w0 into w1, whenever it comes up -/
def Alt (c : Nat) (w0 w1 : World) : (Nat → Bool) → World → Prop := fun L W => W = if L c = true then w1 else w0
theorem wpTxt_alt {c : Nat} {w0 w1 : World} {a : Act} {o : Oper} {rest : List Oper} (v : Value) (hkc : k ≠ c)
    (h : ∀ (W : World) (K : Act → World → Prop), (W = w0 ∨ W = w1) → K (a.put o.dst v) W → Oper.wp P o a W K noQ) (hw : Region.wanted o (yielded ops a.tmps) = true) (hr : wpTxt P ops (Alt c w0 w1) Qf (k + 1) rest (a.put o.dst v)) : wpTxt P ops (Alt c w0 w1) Qf k (o :: rest) a :=
  ⟨v, fun L W _ hS => by
    rw [if_pos hw]
    refine h W _ ?_ ⟨rfl, ?_⟩
    · rw [hS]
      split
      · exact .inr rfl
      · exact .inl rfl
    · unfold Alt
      rw [upd_ne hkc]
      exact hS, hr⟩
theorem wpTxt_turn {w0 w1 : World} {a : Act} {o : Oper} {rest : List Oper} (v : Value)
    (h : ∀ (K : Act → World → Prop), K (a.put o.dst v) w1 → Oper.wp P o a w0 K noQ) (hw : Region.wanted o (yielded ops a.tmps) = true) (hr : wpTxt P ops (Alt k w0 w1) Qf (k + 1) rest (a.put o.dst v)) : wpTxt P ops (Alt k w0 w1) Qf k (o :: rest) a :=
  ⟨v, fun L W hL hS => by
    rw [if_pos hw]
    unfold Alt at hS
    rw [hL, if_neg (by decide)] at hS
    subst hS
    refine h _ ⟨rfl, ?_⟩
    unfold Alt
    rw [upd_eq, if_pos rfl], hr⟩
theorem wpTxt_vals : ∀ (l : List Oper) (k : Nat) (a : Act), wpTxt P ops S Qf k l a → ∃ vs : List Value, vs.length = l.length ∧ (∀ i o, l[i]? = some o → TxStep P ops S (k + i) (tx a (l.take i) (vs.take i)) o (vs.getD i undef)) ∧ Qf (tx a l vs)
  | [], _, a, h => ⟨[], rfl, fun i o hi => by simp at hi, h⟩
  | o :: l, k, a, ⟨v, hv, h⟩ => by
    obtain ⟨vs, hl, hs, hq⟩ := wpTxt_vals l (k + 1) _ h
    refine ⟨v :: vs, by simp [hl], fun i o' hi => ?_, hq⟩
    cases i with
    | zero =>
      simp at hi
      subst hi
      exact hv
    | succ i =>
      have := hs i o' (by simpa using hi)
      rw [show k + 1 + i = k + (i + 1) by omega] at this
      exact this
theorem tx_size (a : Act) (l : List Oper) (vs : List Value) : (tx a l vs).tmps.size = a.tmps.size := by
  induction l generalizing a vs with
  | nil => simp [tx]
  | cons o l ih => cases vs with
    | nil => simp [tx]
    | cons v vs => rw [tx, ih, put_size]
theorem tx_defers (a : Act) (l : List Oper) (vs : List Value) : (tx a l vs).defers = a.defers := by
  induction l generalizing a vs with
  | nil => simp [tx]
  | cons o l ih => cases vs with
    | nil => simp [tx]
    | cons v vs => rw [tx, ih, put_defers']
theorem tx_old (a : Act) (l : List Oper) (vs : List Value) (d : Nat) (h : ∀ (j : Nat) (o : Oper), l[j]? = some o → o.dst ≠ some d) : (tx a l vs).tmps.getD d undef = a.tmps.getD d undef := by
  induction l generalizing a vs with
  | nil => simp [tx]
  | cons o l ih => cases vs with
    | nil => simp [tx]
    | cons v vs =>
      rw [tx, ih _ _ (fun j o' hj => h (j + 1) o' (by simpa using hj)), put_other _ _ _ (h 0 o rfl)]
theorem tx_new (a : Act) (l : List Oper) (vs : List Value) (hl : vs.length = l.length) (d : Nat) (hd : d < a.tmps.size) (i : Nat) (o : Oper) (hi : l[i]? = some o) (ho : o.dst = some d)
    (h : ∀ (j : Nat) (o : Oper), l[j]? = some o → o.dst = some d → j = i) : (tx a l vs).tmps.getD d undef = vs.getD i undef := by
  induction l generalizing a vs i with
  | nil => simp at hi
  | cons o' l ih => cases vs with
    | nil => simp at hl
    | cons v vs =>
      rw [tx]
      cases i with
      | zero =>
        simp at hi
        subst hi
        rw [tx_old _ _ _ _ (fun j o' hj hd => by have := h (j + 1) o' (by simpa using hj) hd; omega), ho, put_same _ _ hd]
        rfl
      | succ i =>
        have := ih (a.put o'.dst v) vs (by simpa using hl) (by rw [put_size]; exact hd) i (by simpa using hi) (fun j o'' hj hd => by have := h (j + 1) o'' (by simpa using hj) hd; omega)
        rw [this]
        simp

/-- what holds while the region is on its way -/
structure OInv (ops : Array Oper) (n : Nat) (S : (Nat → Bool) → World → Prop) (vs : List Value) (a0 : Act) (listed : Array Bool) (a : Act) (W : World) : Prop where
  s : S (fun i => listed.getD i false) W
  len : listed.size = ops.size
  size : a.tmps.size = a0.tmps.size
  defers : a.defers = a0.defers
  closed : ∀ j oj e, ops[j]? = some oj → listed.getD j true = true → e ∈ oj.after → Region.binds .any e = true → listed.getD e.on false = true
  tail : ∀ t, n ≤ t → t < ops.size → listed.getD t true = false
  old : ∀ d, (∀ j, listed.getD j false = true → dstOf ops j ≠ some d) → a.tmps.getD d undef = a0.tmps.getD d undef
  new : ∀ j d, listed.getD j false = true → dstOf ops j = some d → a.tmps.getD d undef = vs.getD j undef

theorem dstOf_lt {j d : Nat} (h : dstOf ops j = some d) : j < ops.size := by
  unfold dstOf at h
  rcases Nat.lt_or_ge j ops.size with h' | h'
  · exact h'
  · rw [Array.getElem?_eq_none h'] at h; cases h
theorem getD_tt {listed : Array Bool} {j : Nat} (hj : j < listed.size) (h : listed.getD j false = true) : listed.getD j true = true := by
  simpa [Array.getD_eq_getD_getElem?, hj] using h
theorem getD_ft {listed : Array Bool} {j : Nat} (hj : j < listed.size) (h : listed.getD j true = true) : listed.getD j false = true := by
  simpa [Array.getD_eq_getD_getElem?, hj] using h

/-- the operation does here what it does in the order of the text -/
theorem wp_conv {o : Oper} {a a1 : Act} {W : World} {v : Value} {K : Act → World → Prop} {Q : Exit → Act → World → Prop} (he : execOp a.eval o = execOp a1.eval o)
    (h : Oper.wp P o a1 W (fun a' W' => a' = a1.put o.dst v ∧ S0 W') noQ) (hd : ∀ d, o.dst = some d → d < a1.tmps.size) (hK : ∀ W', S0 W' → K (a.put o.dst v) W') : Oper.wp P o a W K Q := by
  have hu : ∀ u, a1.put o.dst u = a1.put o.dst v → a.put o.dst u = a.put o.dst v := fun u hu => by
    cases hq : o.dst with
    | none => rfl
    | some d =>
      rw [hq] at hu
      have h1 := put_same a1 u (hd d hq)
      rw [hu, put_same a1 v (hd d hq)] at h1
      rw [h1]
  unfold Oper.wp at *
  rw [he]
  generalize (execOp a1.eval o).run P W = r at *
  cases r with
  | ok n w' =>
    cases n <;> simp only [Oper.upon] at h ⊢
    case value u => rw [hu u h.1]; exact hK _ h.2
    case skip => rw [hu _ h.1]; exact hK _ h.2
    case defer d =>
      have := congrArg Act.defers h.1
      simp only [put_defers'] at this
      have := congrArg List.length this
      simp at this
    case enter f args =>
      refine Calls.mono h fun e w'' he => ?_
      cases e with
      | returned u =>
        show K (a.put o.dst u) w''
        rw [hu u he.1]
        exact hK _ he.2
      | panicked c => exact he.elim
      | outgrown =>
        obtain ⟨_, _, hf⟩ := he
        exact hf.elim
    case row row args => exact Rows.mono h fun u w'' he => by rw [hu u he.1]; exact hK _ he.2
  | halt x w' =>
    cases x <;> simp only [Oper.upon] at h ⊢
    case panic u => exact h.elim

theorem waitsFar_listed {listed : Array Bool} (hcl : ∀ j oj e, ops[j]? = some oj → listed.getD j true = true → e ∈ oj.after → Region.binds .any e = true → listed.getD e.on false = true) :
    ∀ (f t j : Nat), waitsFar ops f t j = true → (∀ o, ops[t]? = some o → ∀ e ∈ o.after, Region.binds .any e = true → listed.getD e.on false = true) → listed.getD j false = true
  | 0, _, _, h, _ => by simp [waitsFar] at h
  | f + 1, t, j, h, hp => by
    have one : ∀ k, Region.waitsFor .any ops t k = true → listed.getD k false = true := fun k hk => by
      obtain ⟨o', ho', e, he, hb, hon⟩ := Region.waitsFor_spec hk
      have := hp o' ho' e he hb
      rwa [hon] at this
    simp only [waitsFar, Bool.or_eq_true] at h
    rcases h with h | h
    · exact one j h
    · obtain ⟨k, _, hk⟩ := List.any_eq_true.1 h
      simp only [Bool.and_eq_true] at hk
      have hlk := one k hk.1
      have hks : k < listed.size := by
        rcases Nat.lt_or_ge k listed.size with h' | h'
        · exact h'
        · simp [Array.getD_eq_getD_getElem?, h'] at hlk
      exact waitsFar_listed hcl f k j hk.2 (fun o ho e he hb => hcl k o e ho (getD_tt hks hlk) he hb)

theorem ord_go {n : Nat} {l tl : List Oper} {Q : Exit → Act → World → Prop} {a0 : Act} {vs : List Value} (hops : ops = (l ++ tl).toArray) (hn : l.length = n) (hok : ordOk ops n tl.length = true) (hvs : vs.length = n)
    (hin : ∀ j d, dstOf ops j = some d → d < a0.tmps.size) (steps : ∀ i o, l[i]? = some o → TxStep P ops S i (tx a0 (l.take i) (vs.take i)) o (vs.getD i undef))
    (fin : ∀ L W, (∀ i, i < n → L i = true) → S L W → wpList P ops Q tl (tx a0 l vs) W) :
    ∀ (m : Nat) (listed : Array Bool) (a : Act) (W : World), (listed.toList.take n).count false = m → OInv ops n S vs a0 listed a W → wpAny P .any ops Q (m + tl.length) listed a W := by
  unfold ordOk at hok
  simp only [Bool.and_eq_true] at hok
  obtain ⟨⟨⟨⟨hfree, hlook⟩, htail⟩, hsel⟩, hseq⟩ := hok
  have hsz : ops.size = n + tl.length := by rw [hops]; simp [hn]
  have hget : ∀ i, i < n → ops[i]? = l[i]? := fun i hi => by
    rw [hops, List.getElem?_toArray, List.getElem?_append_left (by omega)]
  have htx : ∀ (i : Nat), i ≤ n → ∀ d, (∀ j, j < i → dstOf ops j ≠ some d) → (tx a0 (l.take i) (vs.take i)).tmps.getD d undef = a0.tmps.getD d undef := by
    intro i hi d hd
    refine tx_old _ _ _ _ fun j o hj ho => ?_
    rw [List.getElem?_take] at hj
    split at hj
    · rename_i hji
      exact hd j hji (by unfold dstOf; rw [hget j (by omega), hj]; exact ho)
    · cases hj
  have htxn : ∀ (i : Nat), i ≤ n → ∀ j d, j < i → dstOf ops j = some d → (tx a0 (l.take i) (vs.take i)).tmps.getD d undef = vs.getD j undef := by
    intro i hi j d hji hd
    have hjl : j < l.length := by omega
    have hdd : (l[j]).dst = some d := by
      have h := hd
      unfold dstOf at h
      rw [hget j (by omega), List.getElem?_eq_getElem hjl] at h
      exact h
    have h := tx_new a0 (l.take i) (vs.take i) (by simp [hvs, hn]) d (hin j d hd) j l[j] (by rw [List.getElem?_take, if_pos hji, List.getElem?_eq_getElem hjl]) hdd (fun k o hk ho => by
      rw [List.getElem?_take] at hk
      split at hk
      · refine freeOk_apart hfree (d := d) ?_ hd
        unfold dstOf
        rw [hget k (by omega), hk]
        exact ho
      · cases hk)
    rw [h, List.getD_eq_getElem?_getD, List.getD_eq_getElem?_getD, List.getElem?_take, if_pos hji]
  have all_of : ∀ {listed : Array Bool} {a : Act} {W : World}, OInv ops n S vs a0 listed a W → (listed.toList.take n).count false = 0 → ∀ j, j < n → listed.getD j false = true := by
    intro listed a W h hc j hj
    have hjs : j < listed.size := by rw [h.len]; omega
    rw [List.count_eq_zero] at hc
    cases hb : listed[j] with
    | true => simp [Array.getD_eq_getD_getElem?, hjs, hb]
    | false =>
      exfalso
      refine hc ?_
      rw [List.mem_take_iff_getElem]
      exact ⟨j, by simp; omega, by simp [hb]⟩
  have head : ∀ {listed : Array Bool} {a : Act} {W : World}, OInv ops n S vs a0 listed a W → ∀ (k j : Nat), j < k → j < n → listed.getD j true = false → ∃ i ∈ Region.ready .any ops listed, i < n := by
    intro listed a W h k
    induction k with
    | zero => intro j hj; omega
    | succ k ih =>
      intro j hj hjn hun
      by_cases hall : ∀ e ∈ (ops[j]'(by omega)).after, Region.binds .any e = true → listed.getD e.on false = true
      · exact ⟨j, mem_ready.2 ⟨hun, ops[j]'(by omega), Array.getElem?_eq_getElem (by omega), hall⟩, hjn⟩
      · simp only [Classical.not_forall] at hall
        obtain ⟨e, he, hb, hl⟩ := hall
        have hlt := freeOk_lt hfree (Array.getElem?_eq_getElem (show j < ops.size by omega)) he hb
        have hes : e.on < listed.size := by rw [h.len]; omega
        exact ih e.on (by omega) (by omega) (by simpa [Array.getD_eq_getD_getElem?, hes] using hl)
  intro m
  induction m with
  | zero =>
    intro listed a W hc h
    have hall := all_of h hc
    have hL : listed = marks n tl.length := by
      apply Array.ext_getElem?
      intro i
      rw [show (marks n tl.length)[i]? = ((List.range (n + tl.length)).map fun i => decide (i < n))[i]? from by unfold marks; rw [List.getElem?_toArray], List.getElem?_map]
      rcases Nat.lt_or_ge i ops.size with hi | hi
      · rw [List.getElem?_range (by omega)]
        have his : i < listed.size := by rw [h.len]; omega
        rw [Array.getElem?_eq_getElem his]
        by_cases hin' : i < n
        · have := hall i hin'
          rw [Array.getD_eq_getD_getElem?, Array.getElem?_eq_getElem his] at this
          simpa [hin'] using this
        · have := h.tail i (by omega) hi
          rw [Array.getD_eq_getD_getElem?, Array.getElem?_eq_getElem his] at this
          simpa [hin'] using this
      · rw [Array.getElem?_eq_none (by rw [h.len]; omega), List.getElem?_eq_none (by simp; omega)]
        rfl
    have ha : a = tx a0 l vs := by
      have e1 : a.tmps = (tx a0 l vs).tmps := by
        apply Array.ext
        · rw [h.size, tx_size]
        · intro d h1 h2
          have hg : a.tmps.getD d undef = (tx a0 l vs).tmps.getD d undef := by
            by_cases hex : ∃ j, j < n ∧ dstOf ops j = some d
            · obtain ⟨j, hjn, hjd⟩ := hex
              have hx := htxn n (Nat.le_refl _) j d hjn hjd
              rw [List.take_of_length_le (by omega), List.take_of_length_le (by omega)] at hx
              rw [hx]
              exact h.new j d (hall j hjn) hjd
            · have hx := htx n (Nat.le_refl _) d (fun j hj hd => hex ⟨j, hj, hd⟩)
              rw [List.take_of_length_le (by omega), List.take_of_length_le (by omega)] at hx
              rw [hx]
              refine h.old d fun j hj hd => ?_
              rcases Nat.lt_or_ge j n with hjn | hjn
              · exact hex ⟨j, hjn, hd⟩
              · have hjs := dstOf_lt hd
                have := h.tail j hjn hjs
                rw [getD_tt (by rw [h.len]; exact hjs) hj] at this
                cases this
          simpa [Array.getD_eq_getD_getElem?, h1, h2] using hg
      have e2 : a.defers = (tx a0 l vs).defers := by rw [h.defers, tx_defers]
      rcases a with ⟨t, d⟩
      rcases hx : tx a0 l vs with ⟨t', d'⟩
      rw [hx] at e1 e2
      simp only at e1 e2
      rw [e1, e2]
    have hf := fin _ W hall h.s
    rw [Nat.zero_add, hL, ha]
    refine wpAny_of_seq tl n _ _ W (fun j => ?_) hseq hf
    rw [hops, List.getElem?_toArray, List.getElem?_append_right (by omega)]
    congr 1
    omega
  | succ m ih =>
    intro listed a W hc h
    rw [show m + 1 + tl.length = (m + tl.length) + 1 by omega]
    have hex : ∃ j, j < n ∧ listed.getD j true = false := by
      apply Classical.byContradiction
      intro hno
      have : (listed.toList.take n).count false = 0 := by
        rw [List.count_eq_zero, List.mem_take_iff_getElem]
        rintro ⟨j, hj, hb⟩
        have hjs : j < listed.size := by simp at hj; omega
        refine hno ⟨j, by simp at hj; omega, ?_⟩
        simp [Array.getD_eq_getD_getElem?, hjs]
        simpa using hb
      omega
    obtain ⟨j0, hj0, hun0⟩ := hex
    obtain ⟨i0, hi0, _⟩ := head h (j0 + 1) j0 (by omega) hj0 hun0
    refine ⟨fun h0 => (by rw [h0] at hi0; cases hi0), fun i hi => ?_⟩
    obtain ⟨hun, o, ho, hdep⟩ := mem_ready.1 hi
    have his : i < ops.size := (Array.getElem?_eq_some_iff.1 ho).1
    have hil : i < listed.size := by rw [h.len]; exact his
    have hin' : i < n := by
      apply Classical.byContradiction
      intro hge
      have h1 := List.all_eq_true.1 htail i (List.mem_range.2 his)
      simp only [Bool.or_eq_true, decide_eq_true_eq] at h1
      rcases h1 with h1 | h1
      · omega
      · by_cases hin : i = n
        · rw [if_pos hin] at h1
          have h2 := List.all_eq_true.1 h1 j0 (List.mem_range.2 hj0)
          have h3 := waitsFar_listed h.closed n i j0 h2 (fun o' ho' e he hb => by
            rw [ho] at ho'
            injection ho' with ho'
            subst ho'
            exact hdep e he hb)
          have hjs : j0 < listed.size := by rw [h.len]; omega
          rw [getD_tt hjs h3] at hun0
          cases hun0
        · rw [if_neg hin] at h1
          obtain ⟨o', ho', e, he, hb, hon⟩ := Region.waitsFor_spec h1
          rw [ho] at ho'
          injection ho' with ho'
          subst ho'
          have h3 := hdep e he hb
          rw [hon] at h3
          have h4 := h.tail (i - 1) (by omega) (by omega)
          rw [getD_tt (by rw [h.len]; omega) h3] at h4
          cases h4
    have hdst : dstOf ops i = o.dst := by unfold dstOf; rw [ho]; rfl
    have hli : l[i]? = some o := by rw [← hget i hin']; exact ho
    have hst := steps i o hli
    have hlooks : ∀ d, d ∈ o.looksAt ops → a.tmps.getD d undef = (tx a0 (l.take i) (vs.take i)).tmps.getD d undef := by
      intro d hd
      have h1 := List.all_eq_true.1 hlook i (List.mem_range.2 hin')
      rw [ho] at h1
      have h2 := List.all_eq_true.1 h1 d hd
      by_cases hex : ∃ j, dstOf ops j = some d
      · obtain ⟨j, hjd⟩ := hex
        have hjs := dstOf_lt hjd
        have h3 := List.all_eq_true.1 h2 j (List.mem_range.2 hjs)
        rw [hjd] at h3
        simp only [bne_self_eq_false, Bool.false_or, Bool.or_eq_true, Bool.and_eq_true, decide_eq_true_eq] at h3
        rcases h3 with ⟨hlt, hw⟩ | ⟨hlt, hw⟩
        · obtain ⟨o', ho', e, he, hb, hon⟩ := Region.waitsFor_spec hw
          rw [ho] at ho'
          injection ho' with ho'
          subst ho'
          have h4 := hdep e he hb
          rw [hon] at h4
          rw [h.new j d h4 hjd, htxn i (by omega) j d hlt hjd]
        · obtain ⟨o', ho', e, he, hb, hon⟩ := Region.waitsFor_spec hw
          have hnl : ∀ k, listed.getD k false = true → dstOf ops k ≠ some d := fun k hk hkd => by
            have hkj : k = j := freeOk_apart hfree hkd hjd
            subst hkj
            have hks : k < listed.size := by rw [h.len]; exact hjs
            have h5 := h.closed k o' e ho' (getD_tt hks hk) he hb
            rw [hon] at h5
            rw [getD_tt hil h5] at hun
            cases hun
          rw [h.old d hnl, htx i (by omega) d (fun k hk hkd => by
            have hkj : k = j := freeOk_apart hfree hkd hjd
            omega)]
      · rw [h.old d (fun k _ hkd => hex ⟨k, hkd⟩), htx i (by omega) d (fun k _ hkd => hex ⟨k, hkd⟩)]
    have heval : ∀ x ∈ o.op.operands, a.eval x = (tx a0 (l.take i) (vs.take i)).eval x := by
      intro x hx
      cases x with
      | tmp d =>
        have hm : d ∈ o.looksAt ops := List.mem_append_left _ (List.mem_filterMap.2 ⟨.tmp d, by simpa using hx, rfl⟩)
        have := hlooks d hm
        simpa [Act.eval, Array.getD_eq_getD_getElem?] using this
      | _ => rfl
    have hexec : execOp a.eval o = execOp (tx a0 (l.take i) (vs.take i)).eval o := execOp_congr o (fun cs b => Region.noSelect_spec hsel i o cs b ho) heval
    have hwant : Region.wanted o (yielded ops a.tmps) = Region.wanted o (yielded ops (tx a0 (l.take i) (vs.take i)).tmps) := by
      unfold Region.wanted
      cases hg : o.guard with
      | none => rfl
      | some gw =>
        obtain ⟨g, want⟩ := gw
        have hy : yielded ops a.tmps g = yielded ops (tx a0 (l.take i) (vs.take i)).tmps g := by
          unfold yielded
          cases ht : (ops[g]?).bind (·.dst) with
          | none => rfl
          | some t =>
            have hm : t ∈ o.looksAt ops := by simp [Oper.looksAt, hg, ht]
            have hl := hlooks t hm
            have hts : t < a0.tmps.size := hin g t ht
            have h1 : t < a.tmps.size := by rw [h.size]; exact hts
            have h2 : t < (tx a0 (l.take i) (vs.take i)).tmps.size := by rw [tx_size]; exact hts
            simp [Array.getD_eq_getD_getElem?, h1, h2] at hl
            simp [h1, h2, hl]
        simp only [hy]
    have hLi : listed.getD i false = false := by
      rw [Array.getD_eq_getD_getElem?, Array.getElem?_eq_getElem hil, Option.getD_some] at hun ⊢
      exact hun
    have hupd : upd (fun j => listed.getD j false) i = fun j => (listed.setIfInBounds i true).getD j false := by
      funext j
      unfold upd
      by_cases e : j = i
      · subst e
        rw [if_pos rfl, getD_set_same hil]
      · rw [if_neg e, getD_set_ne false (fun h => e h.symm)]
    have hput : ∀ W', S (upd (fun j => listed.getD j false) i) W' → OInv ops n S vs a0 (listed.setIfInBounds i true) (a.put o.dst (vs.getD i undef)) W' := by
      intro W' hS
      have hmono : ∀ k, listed.getD k false = true → (listed.setIfInBounds i true).getD k false = true := fun k hk => by
        by_cases e : i = k
        · subst e; exact getD_set_same hil _
        · rw [getD_set_ne false e]; exact hk
      refine ⟨by rw [← hupd]; exact hS, by simp [h.len], by rw [put_size, h.size], by rw [put_defers', h.defers], ?_, ?_, ?_, ?_⟩
      · intro j oj e hj hl he hb
        by_cases e1 : i = j
        · subst e1
          rw [ho] at hj
          injection hj with hj
          subst hj
          exact hmono _ (hdep e he hb)
        · rw [getD_set_ne true e1] at hl
          exact hmono _ (h.closed j oj e hj hl he hb)
      · intro t ht hts
        rw [getD_set_ne true (by omega)]
        exact h.tail t ht hts
      · intro d hd
        have hne : o.dst ≠ some d := by rw [← hdst]; exact hd i (getD_set_same hil _)
        rw [put_other _ _ _ hne]
        refine h.old d fun j hj => hd j (hmono j hj)
      · intro j d hj hd
        by_cases e : i = j
        · subst e
          rw [hdst] at hd
          rw [hd, put_same _ _ (by rw [h.size]; exact hin i d (by rw [hdst, hd]))]
        · have hne : o.dst ≠ some d := fun hc => e (freeOk_apart hfree (by rw [hdst]; exact hc) hd)
          rw [put_other _ _ _ hne]
          rw [getD_set_ne false e] at hj
          exact h.new j d hj hd
    have hcount : ((listed.setIfInBounds i true).toList.take n).count false = m := by
      rw [Array.toList_setIfInBounds, List.take_set, List.count_set (by simp; omega)]
      rw [Array.getD_eq_getD_getElem?, Array.getElem?_eq_getElem hil, Option.getD_some] at hun
      simp [hun, hc]
    unfold wpOp
    rw [ho]
    have hs1 := hst _ W hLi h.s
    simp only [hwant]
    by_cases hw : Region.wanted o (yielded ops (tx a0 (l.take i) (vs.take i)).tmps) = true
    · rw [if_pos hw] at hs1
      simp only [hw, if_true]
      exact .inl (wp_conv hexec hs1 (fun d hd => by rw [tx_size]; exact hin i d (by rw [hdst]; exact hd)) fun W' hS => ih _ _ _ hcount (hput W' hS))
    · rw [if_neg hw] at hs1
      simp only [hw]
      have := hput W hs1.2
      rw [hs1.1] at this
      exact ih _ _ _ hcount this
/-- THE REGION: the first n operations in the order of the text, in whatever world that meets S; then the others. -/
theorem wp_region_ordL {id : Nat} {l : List Oper} {Q : Exit → Act → World → Prop} {a0 : Act} {w : World} (n : Nat) (S : (Nat → Bool) → World → Prop) (hm : P.follows .mixedOrders = true) (hok : ordOk l.toArray n (l.length - n) = true) (hn : n ≤ l.length)
    (hin : ((List.range l.length).all fun j => ((dstOf l.toArray j).map fun d => decide (d < a0.tmps.size)).getD true) = true) (hS : S (fun _ => false) w.drew)
    (h : wpTxt P l.toArray S (fun a => ∀ L W, (∀ i, i < n → L i = true) → S L W → wpList P l.toArray Q (l.drop n) a W) 0 (l.take n) a0) : (Code.region id l.toArray true).wp P Q a0 w := by
  obtain ⟨vs, hl, hs, hq⟩ := wpTxt_vals _ _ _ h
  have htl : (l.take n).length = n := by simp; omega
  refine wp_region_any hm ?_
  have hg := ord_go (P := P) (S := S) (n := n) (l := l.take n) (tl := l.drop n) (Q := Q) (a0 := a0) (vs := vs) (ops := l.toArray) (by rw [List.take_append_drop]) htl (by rw [List.length_drop]; exact hok) (by rw [hl, htl]) ?_ (fun i o hi => by have := hs i o hi; rwa [Nat.zero_add] at this) hq
    n (Array.replicate l.toArray.size false) a0 w.drew ?_ ?_
  · rw [List.length_drop, show n + (l.length - n) = l.toArray.size by simp; omega] at hg
    exact hg
  · intro j d hd
    have hjs := dstOf_lt hd
    have := List.all_eq_true.1 hin j (List.mem_range.2 (by simpa using hjs))
    rw [hd] at this
    simpa using this
  · rw [Array.toList_replicate, List.take_replicate, List.count_replicate]
    simp
    omega
  · have hrep : ∀ j, (Array.replicate l.toArray.size false).getD j false = false := fun j => getD_replicate_false _ _
    refine ⟨by simp only [hrep]; exact hS, by simp, rfl, rfl, ?_, ?_, fun d _ => rfl, ?_⟩
    · intro j oj e hj hl
      have hjs : j < l.length := by have := (Array.getElem?_eq_some_iff.1 hj).1; simpa using this
      simp [Array.getD_eq_getD_getElem?, hjs] at hl
    · intro t _ ht
      have ht' : t < l.length := by simpa using ht
      simp [Array.getD_eq_getD_getElem?, ht']
    · intro j d hl
      rw [hrep] at hl
      cases hl
theorem wp_region_ord {id : Nat} {l : List Oper} {Q : Exit → Act → World → Prop} {a0 : Act} {w : World} (n : Nat) (S : World → Prop) (hm : P.follows .mixedOrders = true) (hok : ordOk l.toArray n (l.length - n) = true) (hn : n ≤ l.length)
    (hin : ((List.range l.length).all fun j => ((dstOf l.toArray j).map fun d => decide (d < a0.tmps.size)).getD true) = true) (hS : S w.drew)
    (h : wpTxt P l.toArray (fun _ => S) (fun a => ∀ W, S W → wpList P l.toArray Q (l.drop n) a W) 0 (l.take n) a0) : (Code.region id l.toArray true).wp P Q a0 w := by
  refine wp_region_ordL n (fun _ => S) hm hok hn hin hS ?_
  have mono : ∀ (l' : List Oper) (k : Nat) (a : Act) (Q1 Q2 : Act → Prop), (∀ a, Q1 a → Q2 a) → wpTxt P l.toArray (fun _ => S) Q1 k l' a → wpTxt P l.toArray (fun _ => S) Q2 k l' a := by
    intro l'
    induction l' with
    | nil => intro k a Q1 Q2 h12 h; exact h12 _ h
    | cons o l' ih => intro k a Q1 Q2 h12 h; exact ⟨h.choose, h.choose_spec.1, ih _ _ _ _ h12 h.choose_spec.2⟩
  exact mono _ _ _ _ _ (fun a ha _ W _ hS => ha W hS) h
end
/-- a whole array is read -/
theorem wp_load_arr {P : Program} {o : Oper} {a : Act} {w : World} {K : Act → World → Prop} {Q : Exit → Act → World → Prop} (ty : TypeId) (x : Operand) (ho : o.op = .load ty x)
    (g : Nat) (hx : a.eval x = .pointer (some ⟨g, 0, none⟩)) (k : IntKind) (n : Nat) (f : Nat → Nat) (e t : TypeId) (hg : Arr w g t k n f) (hu : P.underlying ty = some (.array n e)) (hz : (P.info? ty).map (·.size) = some n)
    (h : K (a.put o.dst (.agg (tabV k n f))) w) : o.wp P a w K Q := by
  refine wp_load_mid ty x ho g 0 hx (tabV k n f).toList _ (rangeAt_arr hg) hu rfl (by rw [Array.length_toList, tabV_size]; exact hz) ?_
  rw [Array.toArray_toList]
  exact h
theorem tab4 (a b c d : Nat) : tabV .u8 4 (q4 a b c d) = #[.int .u8 (a : Int), .int .u8 (b : Int), .int .u8 (c : Int), .int .u8 (d : Int)] := rfl
end Go.Proofs.YtagegigffohcbaaGreatDoor

namespace Go.Proofs.YtagegigffohcbaaGreatDoor
open Go.RowKit

theorem Arr.to {w : World} {g : Nat} {t : TypeId} {k : IntKind} {n : Nat} {f f' : Nat → Nat} (h : Arr w g t k n f) {i : Nat} (hi : i < n) {v : Int} (hv : v = (f' i : Nat)) (hf : ∀ j, j < n → j ≠ i → f j = f' j) : Arr (w.setCell ⟨g, i, none⟩ (.int k v)) g t k n f' := by
  subst hv
  refine (h.set_ (v := f' i) hi).congr fun j hj => ?_
  by_cases e : j = i
  · subst e; simp
  · simp [e, hf j hj e]
theorem two_new (w : World) (o p : Obj) : ((w.alloc o).alloc p).heap[w.heap.size]? = some o ∧ ((w.alloc o).alloc p).heap[w.heap.size + 1]? = some p :=
  ⟨(Ext.alloc (w.alloc o) p).get (new_of w o), by have := new_of (w.alloc o) p; simpa using this⟩
theorem new3 (w : World) (o p q : Obj) : (((w.alloc o).alloc p).alloc q).heap[w.heap.size]? = some o ∧ (((w.alloc o).alloc p).alloc q).heap[w.heap.size + 1]? = some p ∧ (((w.alloc o).alloc p).alloc q).heap[w.heap.size + 1 + 1]? = some q := by
  obtain ⟨h1, h2⟩ := two_new w o p
  refine ⟨(Ext.alloc _ q).get h1, (Ext.alloc _ q).get h2, ?_⟩
  have h := new_of ((w.alloc o).alloc p) q
  rw [show ((w.alloc o).alloc p).heap.size = w.heap.size + 1 + 1 by simp] at h
  exact h
theorem wpList_store_arr' {P : Program} {w : World} {ops : Array Oper} {rest : List Oper} {o : Oper} {a : Act} {Q : Exit → Act → World → Prop} (hgd : o.guard = none) (hdst : o.dst = none) (ty : TypeId) (x y : Operand) (ho : o.op = .store ty x y)
    (g : Nat) (k : IntKind) (n : Nat) (f : Nat → Nat) (hx : a.eval x = .pointer (some ⟨g, 0, none⟩)) (hy : a.eval y = .agg (tabV k n f)) (t : TypeId) (old : Array Value) (hg : w.heap[g]? = some (.cells old t (0, 0)))
    (hi : (P.info? ty).map (·.size) = some n) (hold : old.size = n) (h : ∀ w', Arr w' g t k n f → w.grownBy w' (some g) → wpList P ops Q rest a w') : wpList P ops Q (o :: rest) a w :=
  wpList_store_arr hgd ty x y ho g k n f hx hy t old hg hi hold (fun w' h1 h2 => by rw [hdst]; exact h w' h1 h2)
theorem size_u8 : (Tryz.prog.info? 5).map (·.size) = some 1 := by kernel_rfl
theorem cells_u8 : Tryz.prog.cellsOf 5 = 1 := by kernel_rfl
theorem info_u8 : (Tryz.prog.info? 5).map (fun i => (i.zero, i.size, i.bytes)) = some (some (.int .u8 0), 1, 1) := by kernel_rfl
end Go.Proofs.YtagegigffohcbaaGreatDoor

namespace Go.Proofs.YtagegigffohcbaaGreatDoor
open Go.RowKit

theorem flat_take (ls : List (List UInt8)) (k : Nat) (h : k < ls.length) : (ls.take (k + 1)).flatten = (ls.take k).flatten ++ ls[k] := by
  rw [List.take_succ_eq_append_getElem h, List.flatten_append]
  simp only [List.flatten_cons, List.flatten_nil, List.append_nil]
theorem flat_len_le (ls : List (List UInt8)) (k : Nat) : (ls.take k).flatten.length ≤ ls.flatten.length := by
  have : ls.flatten = (ls.take k).flatten ++ (ls.drop k).flatten := by rw [← List.flatten_append, List.take_append_drop]
  rw [this, List.length_append]
  omega
/-- the bytes of the first k parts -/
def flt (ls : List (List UInt8)) (k : Nat) : List UInt8 := (ls.take k).flatten
/-- the bytes of all parts -/
def fla (ls : List (List UInt8)) : List UInt8 := ls.flatten
theorem flt_zero (ls : List (List UInt8)) : flt ls 0 = [] := by simp [flt]
theorem flt_step (ls : List (List UInt8)) (k : Nat) (h : k < ls.length) : flt ls k ++ ls[k] = flt ls (k + 1) := (flat_take ls k h).symm
theorem flt_all (ls : List (List UInt8)) {k : Nat} (h : ls.length ≤ k) : flt ls k = fla ls := by rw [flt, List.take_of_length_le h, fla]
theorem flt_le (ls : List (List UInt8)) (k : Nat) : (flt ls k).length ≤ (fla ls).length := flat_len_le ls k
theorem flt_more (ls : List (List UInt8)) (k : Nat) (h : k < ls.length) : (flt ls k).length + (ls[k]).length ≤ (fla ls).length := by
  rw [← List.length_append, flt_step ls k h]
  exact flt_le ls _

/-- A slice of slices of bytes, the capacities no less than the lengths. -/
def RBC (w : World) (S T : Nat → TypeId → Prop) (A : Option Addr) (ls : List (List UInt8)) : Prop :=
  0 < ls.length → ∃ g off cs t fr, A = some ⟨g, off, none⟩ ∧ w.heap[g]? = some (.cells cs t fr) ∧ S g t ∧
    ∀ j l, ls[j]? = some l → ∃ B c, cs[off + j]? = some (.slice B l.length c) ∧ RB w T B l ∧ l.length ≤ c ∧ c ≤ 9223372036854775807
theorem RBC.rbs {w : World} {S T : Nat → TypeId → Prop} {A : Option Addr} {ls : List (List UInt8)} (h : RBC w S T A ls) : RBs w S T A ls := by
  intro hl
  obtain ⟨g, off, cs, t, fr, rfl, hh, hs, hc⟩ := h hl
  exact ⟨g, off, cs, t, fr, rfl, hh, hs, fun j l hj => (hc j l hj).imp fun B ⟨c, h1, h2, _⟩ => ⟨c, h1, h2⟩⟩
theorem RBC.cell {w : World} {S T : Nat → TypeId → Prop} {A : Option Addr} {ls : List (List UInt8)} (h : RBC w S T A ls) {k : Nat} (hk : k < ls.length) :
    ∃ g off B c, A = some ⟨g, off, none⟩ ∧ w.cell? ⟨g, off + k, none⟩ = some (.slice B (ls[k]).length c) ∧ RB w T B ls[k] ∧ (ls[k]).length ≤ c ∧ c ≤ 9223372036854775807 := by
  obtain ⟨g, off, cs, t, fr, rfl, hh, _, hc⟩ := h (by omega)
  obtain ⟨B, c, h1, h2⟩ := hc k _ (List.getElem?_eq_getElem hk)
  exact ⟨g, off, B, c, rfl, by rw [cells_of hh]; exact h1, h2⟩
/-- carried to a later world -/
theorem RBC.keep {w w' : World} {S T : Nat → TypeId → Prop} {A : Option Addr} {ls : List (List UInt8)} (h : RBC w S T A ls) (hk : ∀ g o, w.heap[g]? = some o → (∃ cs t fr, o = .cells cs t fr ∧ (S g t ∨ T g t)) → w'.heap[g]? = some o) : RBC w' S T A ls := by
  intro hl
  obtain ⟨g, off, cs, t, fr, rfl, hh, hs, hc⟩ := h hl
  exact ⟨g, off, cs, t, fr, rfl, hk g _ hh ⟨cs, t, fr, rfl, .inl hs⟩, hs, fun j l hj => (hc j l hj).imp fun B ⟨c, h1, h2, h3⟩ => ⟨c, h1, h2.keep (fun g o ho ⟨cs, t, fr, e, hT⟩ => hk g o ho ⟨cs, t, fr, e, .inr hT⟩), h3⟩⟩
theorem RBC.ext {w w' : World} {S T : Nat → TypeId → Prop} {A : Option Addr} {ls : List (List UInt8)} (h : RBC w S T A ls) (hb : Ext w w') : RBC w' S T A ls := h.keep fun _ _ hh _ => hb.get hh
theorem RBC.nil (w : World) (S T : Nat → TypeId → Prop) (A : Option Addr) : RBC w S T A [] := fun h => absurd h (by simp)
theorem RBC.inside {w : World} {S T : Nat → TypeId → Prop} {A : Option Addr} {ls : List (List UInt8)} (h : RBC w S T A ls) : RBC w (fun g _ => g < w.heap.size) (fun g _ => g < w.heap.size) A ls := by
  intro hl
  obtain ⟨g, off, cs, t, fr, rfl, hh, hs, hc⟩ := h hl
  exact ⟨g, off, cs, t, fr, rfl, hh, lt_of_some hh, fun j l hj => (hc j l hj).imp fun B ⟨c, h1, h2, h3⟩ => ⟨c, h1, h2.inside.more (fun _ _ h => h.2), h3⟩⟩

end Go.Proofs.YtagegigffohcbaaGreatDoor

namespace Go.Proofs.YtagegigffohcbaaGreatDoor
open Go.RowKit

theorem info_u8' : (Tryz.prog.info? 5).map (fun i => (i.zero, i.size, i.bytes)) = some (some (.int .u8 0), 1, 1) := by kernel_rfl

set_option maxHeartbeats 400000 in
theorem same_c (A B : Option Addr) (a b : List UInt8) (ca cb : Nat) (S T : Nat → TypeId → Prop) (w : World) (ha : RB w S A a) (hb : RB w T B b) (hla : a.length ≤ 9223372036854775807) :
    Calls Tryz.prog 10 #[.slice A a.length ca, .slice B b.length cb] w fun e w' => e = .returned (.bool (decide (a = b))) ∧ ∃ n, w' = w.drewN n := by
  by_cases hlen : a.length = b.length
  · have H := Lib.hid hlen
    have hb0 := bne_f (a := (a.length : Int)) (b := (b.length : Int)) (by omega)
    have hlen' : b.length ≤ a.length ∧ a.length ≤ b.length := by omega
    obtain ⟨h1, h2⟩ := hlen'
    clear hlen
    go_enter Tryz.func10, Tryz.ntmps10
    go_wp2
    go_loopw [5] (fun i wr => ∃ k : Nat, k ≤ a.length ∧ i = .int .i64 k ∧ a.take k = b.take k ∧ ∃ n, wr = w.drewN n) (fun i _ => a.length - (intOf i).toNat)
    case atStart => exact ⟨0, Nat.zero_le _, rfl, by simp, 0, rfl⟩
    case round =>
      obtain ⟨k, hk, rfl, ht, n, rfl⟩ := hrel
      have HT := Lib.hid ht
      clear ht
      by_cases hlt : k < a.length
      · have hlt' : k < b.length := by omega
        have HS := Lib.hid (take_succ_eq HT.out hlt hlt')
        obtain ⟨g, off, rfl, hc⟩ := ha.cell hlt
        obtain ⟨g', off', rfl, hc'⟩ := hb.cell hlt'
        by_cases he : a[k] = b[k]
        · have he' := bne_f (a := (a[k].toNat : Int)) (b := (b[k].toNat : Int)) (by rw [he])
          have HE := Lib.hid he
          clear he
          go_wp2_with fail
          go_quiet (fail)
          go_wp2
          go_roundw
          case rel => exact ⟨k + 1, by omega, by go_num, HS.out.2 HE.out, _, rfl⟩
          case measure => simp [intOf]; omega
        · have he' := bne_t (u8_ne he)
          have HE := Lib.hid he
          clear he
          go_wp2_with fail
          go_quiet (fail)
          go_wp2
          go_ret
          exact ⟨by rw [decide_eq_false (fun h => HE.out (by subst h; rfl))]; rfl, n + _, by rw [← World.drewN_drewN]⟩
      · go_wp2
        go_ret
        refine ⟨?_, _, rfl⟩
        have h3 := HT.out
        rw [List.take_of_length_le (by omega), List.take_of_length_le (by omega)] at h3
        rw [decide_eq_true h3]; rfl
  · have hb0 := bne_t (a := (a.length : Int)) (b := (b.length : Int)) (by omega)
    go_enter Tryz.func10, Tryz.ntmps10
    go_wp2
    go_ret
    exact ⟨by rw [decide_eq_false (fun h => hlen (by rw [h]))]; rfl, 0, rfl⟩
theorem same_x (A B : Option Addr) (a b : List UInt8) (ca cb : Nat) (S T : Nat → TypeId → Prop) (w : World) (ha : RB w S A a) (hb : RB w T B b) (hla : a.length ≤ 9223372036854775807) (h : a = b) :
    Calls Tryz.prog 10 #[.slice A a.length ca, .slice B b.length cb] w fun e w' => e = .returned (.bool true) ∧ Ext w w' :=
  (same_c A B a b ca cb S T w ha hb hla).mono fun _ _ ⟨he, n, hw⟩ => ⟨by rw [he, decide_eq_true h], by rw [hw]; exact Ext.drewN _ _⟩

set_option maxHeartbeats 1000000 in
theorem rjoin_c (A : Option Addr) (c : Nat) (ls : List (List UInt8)) (S T : Nat → TypeId → Prop) (w : World) (h : RBs w S T A ls) (hl : (fla ls).length ≤ 140737488355328) (hn : ls.length ≤ 140737488355328) :
    Calls Tryz.prog 27 #[.slice A ls.length c] w fun e w' => ∃ A' c', e = .returned (.slice A' (fla ls).length c') ∧ OwnB w' 5 w.heap.size A' c' (fla ls) ∧ Ext w w' := by
  obtain ⟨i0, hi0, hz0, hz1, hz2⟩ := info_parts info_u8'
  have H := Lib.hid h
  have HL := Lib.hid hl
  clear h hl
  go_enter Tryz.func27, Tryz.ntmps27
  go_wp2
  go_loopw [3, 4] (fun v i wr => ∃ (k : Nat) (B : Option Addr) (d : Nat), k ≤ ls.length ∧ i = .int .i64 k ∧ v = .slice B (flt ls k).length d ∧ OwnB wr 5 w.heap.size B d (flt ls k) ∧ Ext w wr) (fun _ i _ => ls.length - (intOf i).toNat)
  case atStart => exact ⟨0, none, 0, Nat.zero_le _, rfl, by rw [flt_zero]; rfl, by rw [flt_zero]; exact OwnB.nil _ _ _, Ext.refl _⟩
  case round =>
    obtain ⟨k, B, d, hk, rfl, rfl, hor, hxr⟩ := hrel
    by_cases hlt : k < ls.length
    · obtain ⟨g, off, C, d', rfl, hc, hr⟩ := (H.out.ext hxr).cell hlt
      have h3 : (flt ls k).length + (ls[k]).length ≤ 140737488355328 := Nat.le_trans (flt_more ls k hlt) HL.out
      have HF := Lib.hid (flt_step ls k hlt)
      have hsz := hxr.size
      go_wp2_with (at_builtin; refine wpList_append_bytes _ rfl _ _ 31 rfl w.heap.size 5 i0 Tryz.underlying31 hi0 hz0 hz1 hz2 B d (flt ls k) rfl hor T C d' ls[k] rfl hr h3 hsz ?_; intro A' c' w2 ho2 hg2 hb2)
      have hxn := grown_new hxr hg2 hor.ge
      rw [HF.out] at ho2
      go_roundw
      case rel => exact ⟨k + 1, A', c', by omega, by go_num, by rw [← HF.out, List.length_append], ho2, hxn⟩
      case measure => simp [intOf]; omega
    · rw [flt_all ls (by omega)] at *
      go_wp2_with fail
      go_ret
      exact ⟨B, d, rfl, hor, hxr⟩

end Go.Proofs.YtagegigffohcbaaGreatDoor

namespace Go.Proofs.YtagegigffohcbaaGreatDoor
open Go.RowKit

/-- in a region that draws its order: a move is carried out first -/
theorem wpAnyH_take_move {P : Program} {md : Region.Mode} {ops : Array Oper} {Q : Exit → Act → World → Prop} {S : World → Prop} {fuel : Nat} {listed : Array Bool} {a : Act} {w : World} (i : Nat) {oi : Oper} (hi : ops[i]? = some oi)
    (hs : Region.noSelect ops = true) (hf : Region.free md ops listed i = true) (hr : (Region.ready md ops listed).contains i = true) (hQ : ∀ c a v w, Q (.panic c) (a.put oi.dst v) w → Q (.panic c) a w)
    (hw : Region.wanted oi (yielded ops a.tmps) = true) (x : Operand) (ho : oi.op = .move x) (v : Value) (hv : a.eval x = v) (hSw : S w)
    (h : wpAnyH P md ops Q S fuel (listed.setIfInBounds i true) (a.put oi.dst v) w) : wpAnyH P md ops Q S (fuel + 1) listed a w :=
  wpAnyH_take (v := v) hi hs hf hr (fun c a w => hQ c a _ w) (.inl ⟨hw, fun w _ => by unfold execOp; simp [ho, hv]⟩) hSw h

/-- in a region that draws its order: an assignment is carried out first -/
theorem wpAnyH_take_asg {P : Program} {md : Region.Mode} {ops : Array Oper} {Q : Exit → Act → World → Prop} {S : World → Prop} {fuel : Nat} {listed : Array Bool} {a : Act} {w : World} (i : Nat) {oi : Oper} (hi : ops[i]? = some oi)
    (hs : Region.noSelect ops = true) (hf : Region.free md ops listed i = true) (hr : (Region.ready md ops listed).contains i = true) (hQ : ∀ c a v w, Q (.panic c) (a.put oi.dst v) w → Q (.panic c) a w)
    (hw : Region.wanted oi (yielded ops a.tmps) = true) (x : Operand) (ho : oi.op = .assign x) (v : Value) (hv : a.eval x = v) (hSw : S w)
    (h : wpAnyH P md ops Q S fuel (listed.setIfInBounds i true) (a.put oi.dst v) w) : wpAnyH P md ops Q S (fuel + 1) listed a w :=
  wpAnyH_take (v := v) hi hs hf hr (fun c a w => hQ c a _ w) (.inl ⟨hw, fun w _ => by unfold execOp; simp [ho, hv]⟩) hSw h

end Go.Proofs.YtagegigffohcbaaGreatDoor

namespace Go.Proofs.YtagegigffohcbaaGreatDoor
open Go.ChangeShapes Go.WideShapes Go.ChangeAt Go.RowKit

/-- an array of integers that came in by value -/
theorem open_arr {H : Type} {enc : TypeId × Value → H} {P : Program} {w : World} {base : Nat} {spare : Nat → Bool} {held : Bool} {r : Reach} {b0 : Nat} {t e : TypeId} {n : Nat} {k : IntKind} {v : Value} {d : DataW H} {p : List MemPlace}
    (hu : P.underlying t = some (.array n e)) (he : P.underlying e = some (.int k)) (hce : P.cellsOf e = 1) (hct : P.cellsOf t = n) (hk : ∀ z : Int, (Lit.int k z).wf = true → 0 ≤ z)
    (hval : Value.okWide P w r b0 t v) (h : DataW.Trod enc P w base spare held t v d p) : ∃ f : Nat → Nat, v = .agg (tabV k n f) ∧ ∀ i, i < n → (Lit.int k (f i : Nat)).wf = true := by
  unfold Value.okWide at hval
  rw [hu] at hval
  obtain ⟨cs, rfl, hsz, _⟩ := hval
  obtain ⟨fuel, hf⟩ := h
  obtain ⟨xs, m, rfl, _, hlen, hn, hel⟩ := DataW.trod_array hu hf
  have hV : ∀ i, i < n → ∃ q : Nat, cs[i]? = some (.int k (q : Nat)) ∧ (Lit.int k (q : Nat)).wf = true := by
    intro i hi
    have hi2 := hel i hi
    rw [List.getElem?_eq_getElem (by omega)] at hi2
    obtain ⟨q, hq, _, hw⟩ := DataW.trod_int he hi2
    rw [hce, Nat.mul_one] at hq
    have h0 := hk q hw
    refine ⟨q.toNat, ?_, by rw [Int.toNat_of_nonneg h0]; exact hw⟩
    rw [Int.toNat_of_nonneg h0]
    have hc : (((Value.agg cs).cells.toList.drop i).take 1)[0]? = some (.int k q) := by rw [hq]; rfl
    rw [List.getElem?_take, if_pos (by decide), List.getElem?_drop, Nat.add_zero] at hc
    rw [← Array.getElem?_toList]
    exact hc
  obtain ⟨f, hf2⟩ := Go.Deep.choose_lt hV
  exact ⟨f, congrArg Value.agg (tabV_ext (by rw [hsz, hct]) (fun i hi => (hf2 i hi).1)), fun i hi => (hf2 i hi).2⟩
end Go.Proofs.YtagegigffohcbaaGreatDoor

namespace Go.Proofs.YtagegigffohcbaaGreatDoor
open Go.RowKit

/-! ## parts are joined -/
/-- the number of bytes in the first k parts -/
def flen (ls : List (List UInt8)) (k : Nat) : Nat := (ls.take k).flatten.length
theorem flen_step (ls : List (List UInt8)) (k : Nat) (h : k < ls.length) : flen ls k + (ls[k]).length = flen ls (k + 1) := by
  unfold flen
  rw [flat_take ls k h, List.length_append]
theorem flen_le (ls : List (List UInt8)) (k : Nat) : flen ls k ≤ ls.flatten.length := flat_len_le ls k
theorem flen_all (ls : List (List UInt8)) : flen ls ls.length = ls.flatten.length := by rw [flen, List.take_length]
theorem flt_len (ls : List (List UInt8)) (k : Nat) : (flt ls k).length = flen ls k := rfl
theorem wflt_all (ls : List (List UInt8)) : flt ls ls.length = ls.flatten := by rw [flt, List.take_length]

set_option maxHeartbeats 1000000 in
theorem join_c (A : Option Addr) (c : Nat) (ls : List (List UInt8)) (S T : Nat → TypeId → Prop) (w : World) (h : RBs w S T A ls) (hl : ls.flatten.length ≤ 140737488355328) (hn : ls.length ≤ 140737488355328) :
    Calls Tryz.prog 34 #[.slice A ls.length c] w fun e w' => ∃ A' c', e = .returned (.slice A' ls.flatten.length c') ∧ OwnB w' 5 w.heap.size A' c' ls.flatten ∧ Ext w w' := by
  obtain ⟨i0, hi0, hz0, hz1, hz2⟩ := info_parts info_u8
  have H := Lib.hid h
  clear h
  have hle : ∀ k, flen ls k ≤ 140737488355328 := fun k => Nat.le_trans (flen_le ls k) hl
  have HLE := Lib.hid hle
  clear hl hle
  go_enter Tryz.func34, Tryz.ntmps34
  go_wp2
  go_loop [3, 5, 11] (fun n _ i => ∃ k : Nat, k ≤ ls.length ∧ i = .int .i64 k ∧ n = .int .i64 (flen ls k : Nat)) (fun _ _ i => ls.length - (intOf i).toNat)
  case atStart => exact ⟨0, Nat.zero_le _, rfl, rfl⟩
  case round =>
    obtain ⟨k, hk, rfl, rfl⟩ := hrel
    by_cases hlt : k < ls.length
    · obtain ⟨g, off, B, d, rfl, hc, _⟩ := H.out.cell hlt
      have h2 := flen_step ls k hlt
      have h1 := HLE.out (k + 1)
      have h3 : flen ls k + (ls[k]).length ≤ 140737488355328 := by omega
      have HF := Lib.hid h2
      clear h1 h2
      go_wp2_with fail
      go_round
      case rel => exact ⟨k + 1, by omega, by go_num, by rw [← HF.out]; go_num⟩
      case measure => simp [intOf]; omega
    · obtain rfl : k = ls.length := by omega
      have h1 := HLE.out ls.length
      go_wp2_with (at_make; refine wpList_make_own _ rfl _ _ 31 rfl w.heap.size 5 i0 (.int .u8 0) 1 Tryz.underlying31 hi0 hz0 hz1 .i64 .i64 _ (flen ls ls.length) rfl rfl rfl (by rw [hz2]; omega) (by unfold maxLen; omega) (Nat.le_refl _) ?_; intro w1 ho1 hg1)
      have hx1 : Ext w w1 := grown_ext hg1
      have ho : OwnB w1 5 w.heap.size (some ⟨w.heap.size, 0, none⟩) (flen ls ls.length) (flt ls 0) := ho1
      have HO := Lib.hid ho
      clear ho1 hg1 ho
      go_loopw [6, 8, 24] (fun v _ i wr => ∃ (k : Nat) (B : Option Addr) (d : Nat), k ≤ ls.length ∧ i = .int .i64 k ∧ v = .slice B (flt ls k).length d ∧ OwnB wr 5 w.heap.size B d (flt ls k) ∧ Ext w wr) (fun _ _ i _ => ls.length - (intOf i).toNat)
      case atStart => exact ⟨0, _, _, Nat.zero_le _, rfl, rfl, HO.out, hx1⟩
      case round =>
        obtain ⟨k, B, d, hk, rfl, rfl, hor, hxr⟩ := hrel
        by_cases hlt : k < ls.length
        · obtain ⟨g, off, C, d', rfl, hc, hr⟩ := (H.out.ext hxr).cell hlt
          have h2 := flen_step ls k hlt
          have h1 := HLE.out (k + 1)
          have h3 : (flt ls k).length + (ls[k]).length ≤ 140737488355328 := by rw [flt_len]; omega
          have HF := Lib.hid (flt_step ls k hlt)
          have hsz := hxr.size
          clear h1 h2
          go_wp2_with (at_builtin; refine wpList_append_bytes _ rfl _ _ 31 rfl w.heap.size 5 i0 Tryz.underlying31 hi0 hz0 hz1 hz2 B d (flt ls k) rfl hor T C d' ls[k] rfl hr h3 hsz ?_; intro A' c' w2 ho2 hg2 hb2)
          have hxn := grown_new hxr hg2 hor.ge
          rw [HF.out] at ho2
          go_roundw
          case rel => exact ⟨k + 1, A', c', by omega, by go_num, by rw [← HF.out, List.length_append], ho2, hxn⟩
          case measure => simp [intOf]; omega
        · obtain rfl : k = ls.length := by omega
          go_wp2_with fail
          go_ret
          exact ⟨B, d, by rw [← wflt_all]; rfl, by rw [← wflt_all]; exact hor, hxr⟩

end Go.Proofs.YtagegigffohcbaaGreatDoor
