/-
  Package ctr: Stream; ciphers: New, Used.
-/
import Derived.Test.YtdmfajcbbolfiaaCtrD
namespace Go.Proofs.Ytdmfajcbbolfiaa
open Go.RowKit
set_option linter.unusedVariables false
set_option linter.unusedSimpArgs false

set_option maxRecDepth 100000 in
set_option maxHeartbeats 1000000 in
theorem cstream_c (key nonce : Nat → Nat) (hk : Byt key) (hn : Byt8 nonce) (at_ n : Nat) (ha : at_ ≤ 1099511627776) (hm : n ≤ 1048576) (w : World) :
    Calls Try.prog 10 #[.agg (tabV .u8 16 key), .agg (tabV .u8 8 nonce), .int .i64 (at_ : Nat), .int .i64 (n : Nat)] w fun e w' =>
      ∃ A c, e = .returned (.slice A n c) ∧ OwnB w' 5 w.heap.size A c (strm key nonce at_ n) ∧ Ext w w' := by
  have t1 : ¬ (at_ : Int) < 0 := by omega
  have t2 : ¬ (1099511627776 : Int) < (at_ : Int) := by omega
  have t3 : ¬ (n : Int) < 0 := by omega
  have t4 : ¬ (1048576 : Int) < (n : Int) := by omega
  obtain ⟨h0, h1⟩ := two_new w (.cells (tabV .u8 16 key) 22) (.cells (tabV .u8 8 nonce) 23)
  have HX := Lib.hid ((Ext.alloc w (.cells (tabV .u8 16 key) 22)).tr (Ext.alloc _ (.cells (tabV .u8 8 nonce) 23)))
  have H0 := Lib.hid (show Arr _ w.heap.size 22 .u8 16 key from h0)
  have H1 := Lib.hid (show Arr _ (w.heap.size + 1) 23 .u8 8 nonce from h1)
  clear h0 h1
  go_enter Try.func10, Try.ntmps10
  go_wp2_with (first
    | refine wpList_load_arr rfl 22 (.tmp 4) rfl w.heap.size rfl 22 .u8 16 key _ H0.out Try.underlying22 size_bk ?_
    | refine wpList_load_arr rfl 23 (.tmp 5) rfl (w.heap.size + 1) rfl 23 .u8 8 nonce _ H1.out Try.underlying23 size_nc ?_)
  refine (stream_c key nonce hk hn at_ n (by omega) hm _).mono ?_
  rintro e w' ⟨A, c, rfl, ho, hx⟩
  have HO := Lib.hid (ho.less (base' := w.heap.size) (by simp; omega))
  have HXX := Lib.hid (HX.out.tr hx)
  clear ho hx
  go_wp2_with fail
  go_ret
  exact ⟨A, c, rfl, HO.out, HXX.out⟩

set_option maxRecDepth 100000 in
set_option maxHeartbeats 1000000 in
theorem cstream_none (key nonce : Nat → Nat) (at_ n : Int) (h : at_ < 0 ∨ 1099511627776 < at_ ∨ n < 0 ∨ 1048576 < n) (w : World) :
    Calls Try.prog 10 #[.agg (tabV .u8 16 key), .agg (tabV .u8 8 nonce), .int .i64 at_, .int .i64 n] w fun e w' => e = .returned (.slice none 0 0) ∧ Ext w w' := by
  have HX := Lib.hid ((Ext.alloc w (.cells (tabV .u8 16 key) 22)).tr (Ext.alloc _ (.cells (tabV .u8 8 nonce) 23)))
  by_cases t1 : at_ < 0
  · clear h
    go_enter Try.func10, Try.ntmps10
    go_wp2_with fail
    go_ret
    exact ⟨rfl, HX.out⟩
  · by_cases t2 : 1099511627776 < at_
    · clear h
      go_enter Try.func10, Try.ntmps10
      go_wp2_with fail
      go_ret
      exact ⟨rfl, HX.out⟩
    · by_cases t3 : n < 0
      · clear h
        go_enter Try.func10, Try.ntmps10
        go_wp2_with fail
        go_ret
        exact ⟨rfl, HX.out⟩
      · have t4 : 1048576 < n := by rcases h with h | h | h | h <;> first | exact absurd h t1 | exact absurd h t2 | exact absurd h t3 | exact h
        clear h
        go_enter Try.func10, Try.ntmps10
        go_wp2_with fail
        go_ret
        exact ⟨rfl, HX.out⟩

/-! ## a cipher in memory -/
def cph (key nonce : Nat → Nat) (used : Nat) : Array Value := (tabV .u8 16 key ++ tabV .u8 8 nonce).push (.int .i64 (used : Nat))
def Cph (w : World) (g : Nat) (key nonce : Nat → Nat) (used : Nat) : Prop := w.heap[g]? = some (.cells (cph key nonce used) 48 (0, 0))
section
variable {w w' : World} {g used : Nat} {key nonce : Nat → Nat}
theorem Cph.ext (h : Cph w g key nonce used) (hx : Ext w w') : Cph w' g key nonce used := hx.get h
theorem Cph.atKey (h : Cph w g key nonce used) : w.rangeAt g 0 (tabV .u8 16 key).toList := by
  intro j v hj
  rw [Array.getElem?_toList] at hj
  have hj16 : j < 16 := by have := (Array.getElem?_eq_some_iff.1 hj).1; rwa [tabV_size] at this
  unfold Cph at h
  rw [cells_of h, Nat.zero_add]
  unfold cph
  rw [Array.getElem?_push, Array.size_append, tabV_size, tabV_size, if_neg (by omega), Array.getElem?_append, tabV_size, if_pos hj16]
  exact hj
theorem Cph.atNonce (h : Cph w g key nonce used) : w.rangeAt g 16 (tabV .u8 8 nonce).toList := by
  intro j v hj
  rw [Array.getElem?_toList] at hj
  have hj16 : j < 8 := by have := (Array.getElem?_eq_some_iff.1 hj).1; rwa [tabV_size] at this
  unfold Cph at h
  rw [cells_of h]
  unfold cph
  rw [Array.getElem?_push, Array.size_append, tabV_size, tabV_size, if_neg (by omega), Array.getElem?_append, tabV_size, if_neg (by omega), show 16 + j - 16 = j by omega]
  exact hj
theorem cph_size : (cph key nonce used).size = 25 := by unfold cph; rw [Array.size_push, Array.size_append, tabV_size, tabV_size]
theorem Cph.atUsed (h : Cph w g key nonce used) : w.cell? ⟨g, 24, none⟩ = some (.int .i64 (used : Nat)) := by
  unfold Cph at h
  rw [cells_of h]
  unfold cph
  rw [Array.getElem?_push, Array.size_append, tabV_size, tabV_size, if_pos rfl]
theorem Cph.free (h : Cph w g key nonce used) (i : Nat) : w.frozen? ⟨g, i, none⟩ = false := free_of h i
theorem Cph.set_ (h : Cph w g key nonce used) (v : Nat) : Cph (w.setCell ⟨g, 24, none⟩ (.int .i64 (v : Nat))) g key nonce v := by
  unfold Cph at *
  rw [set_of h]
  have e : (cph key nonce used).setIfInBounds 24 (.int .i64 (v : Nat)) = cph key nonce v := by
    unfold cph
    apply Array.ext_getElem?
    intro i
    rw [Array.getElem?_setIfInBounds, Array.getElem?_push, Array.getElem?_push, Array.size_push, Array.size_append, tabV_size, tabV_size]
    by_cases e : 24 = i
    · subst e; simp
    · rw [if_neg e, if_neg (by omega), if_neg (by omega)]
  rw [e]
end
theorem wpList_build_two {P : Program} {ops : Array Oper} {rest : List Oper} {o : Oper} {a : Act} {w : World} {Q : Exit → Act → World → Prop} (hg : o.guard = none) (t : TypeId) (x y : Operand) (ho : o.op = .build t #[(0, x), (1, y)]) (u v : Value) (hx : a.eval x = u) (hy : a.eval y = v) (cs : Array Value)
    (hf : P.built t [(0, u), (1, v)] = some cs) (h : wpList P ops Q rest (a.put o.dst (.agg cs)) w) : wpList P ops Q (o :: rest) a w := by
  have e : P.built t ((#[(0, x), (1, y)] : Array (Nat × Operand)).map fun (i, z) => (i, a.eval z)).toList = some cs := by
    simp only [List.map_toArray, List.map_cons, List.map_nil, hx, hy]
    exact hf
  exact wpList_build hg t _ ho (by rw [e]; rfl) (by rw [e]; exact h)
theorem built_cph (key nonce : Nat → Nat) : Try.prog.built 48 [(0, .agg (tabV .u8 16 key)), (1, .agg (tabV .u8 8 nonce))] = some (cph key nonce 0) := by kernel_rfl

set_option maxRecDepth 100000 in
set_option maxHeartbeats 1000000 in
theorem new_c (key nonce : Nat → Nat) (w : World) :
    Calls Try.prog 15 #[.agg (tabV .u8 16 key), .agg (tabV .u8 8 nonce)] w fun e w' => e = .returned (.pointer (some ⟨w.heap.size + 2, 0, none⟩)) ∧ Cph w' (w.heap.size + 2) key nonce 0 ∧ Ext w w' := by
  obtain ⟨h0, h1⟩ := two_new w (.cells (tabV .u8 16 key) 22) (.cells (tabV .u8 8 nonce) 23)
  have HX := Lib.hid ((Ext.alloc w (.cells (tabV .u8 16 key) 22)).tr (Ext.alloc _ (.cells (tabV .u8 8 nonce) 23)))
  have H0 := Lib.hid (show Arr _ w.heap.size 22 .u8 16 key from h0)
  have H1 := Lib.hid (show Arr _ (w.heap.size + 1) 23 .u8 8 nonce from h1)
  clear h0 h1
  go_enter Try.func15, Try.ntmps15
  go_wp2_with (first
    | refine wpList_load_arr rfl 22 (.tmp 2) rfl w.heap.size rfl 22 .u8 16 key _ H0.out Try.underlying22 size_bk ?_
    | refine wpList_load_arr rfl 23 (.tmp 3) rfl (w.heap.size + 1) rfl 23 .u8 8 nonce _ H1.out Try.underlying23 size_nc ?_
    | refine wpList_build_two rfl 48 (.tmp 5) (.tmp 6) rfl (.agg (tabV .u8 16 key)) (.agg (tabV .u8 8 nonce)) rfl rfl (cph key nonce 0) (built_cph key nonce) ?_)
  go_ret
  exact ⟨rfl, (new3 w _ _ _).2.2, HX.out.tr (Ext.alloc _ _)⟩

set_option maxRecDepth 100000 in
theorem used_c (g used : Nat) (key nonce : Nat → Nat) (w : World) (h : Cph w g key nonce used) :
    Calls Try.prog 17 #[.pointer (some ⟨g, 0, none⟩)] w fun e w' => e = .returned (.int .i64 (used : Nat)) ∧ w' = w := by
  have hc := h.atUsed
  clear h
  go_enter Try.func17, Try.ntmps17
  go_wp2_with fail
  go_ret
  exact ⟨rfl, rfl⟩
set_option maxRecDepth 100000 in
theorem used_nil (w : World) :
    Calls Try.prog 17 #[.pointer none] w fun e w' => e = .returned (.int .i64 0) ∧ w' = w := by
  go_enter Try.func17, Try.ntmps17
  go_wp2_with fail
  go_ret
  exact ⟨rfl, rfl⟩
set_option maxRecDepth 100000 in
theorem next_nil (B : Option Addr) (k d : Nat) (w : World) :
    Calls Try.prog 16 #[.pointer none, .slice B k d] w fun e w' => e = .returned (.slice none 0 0) ∧ w' = w := by
  go_enter Try.func16, Try.ntmps16
  go_wp2_with fail
  go_ret
  exact ⟨rfl, rfl⟩
end Go.Proofs.Ytdmfajcbbolfiaa
