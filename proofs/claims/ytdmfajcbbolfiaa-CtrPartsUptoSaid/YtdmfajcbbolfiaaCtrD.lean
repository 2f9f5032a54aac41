/-
  Package ctr: n bytes of the stream.
-/
import Derived.Test.YtdmfajcbbolfiaaCtrC
import Derived.OwnWalk
import Derived.Shelf.Abstract
import Derived.RangeFuncBound
namespace Go.Proofs.Ytdmfajcbbolfiaa
open Go.RowKit
set_option linter.unusedVariables false
set_option linter.unusedSimpArgs false

theorem info_u8 : (Try.prog.info? 5).map (fun i => (i.zero, i.size, i.bytes)) = some (some (.int .u8 0), 1, 1) := by kernel_rfl
/-- a cell that holds a value -/
def Box (w : World) (g : Nat) (t : TypeId) (v : Value) : Prop := w.heap[g]? = some (.cells #[v] t (0, 0))
theorem Box.ext {w w' : World} {g : Nat} {t : TypeId} {v : Value} (h : Box w g t v) (hx : Ext w w') : Box w' g t v := hx.get h
theorem Box.cell {w : World} {g : Nat} {t : TypeId} {v : Value} (h : Box w g t v) : w.cell? ⟨g, 0, none⟩ = some v := by unfold Box at h; rw [cells_of h]; rfl
theorem Box.free {w : World} {g : Nat} {t : TypeId} {v : Value} (h : Box w g t v) : w.frozen? ⟨g, 0, none⟩ = false := free_of h 0
theorem Box.set_ {w : World} {g : Nat} {t : TypeId} {v : Value} (h : Box w g t v) (u : Value) : Box (w.setCell ⟨g, 0, none⟩ u) g t u := by
  unfold Box at *
  rw [set_of h]
  rfl
theorem keepC {X Y : World} {row : Option Nat} (hg : X.grownBy Y row) (hrow : ∀ r, row = some r → ∃ o : Obj, X.heap[r]? = some o ∧ o.isCells = false) {g : Nat} {cs : Array Value} {t : TypeId} {fr : Nat × Nat} (h : X.heap[g]? = some (.cells cs t fr)) : Y.heap[g]? = some (.cells cs t fr) :=
  (grownBy_keeps_cells hg hrow h rfl).trans h
theorem keeps_ext {W W' : World} (h : Ext W W') (B : Nat) : KeepsFrom B W W' := ⟨h.size, fun k o _ hk _ => h.get hk⟩
/-- a part of an array, as a slice -/
theorem run_slice_arr_mid {P : Program} {t e : TypeId} {n : Nat} (hu : P.underlying t = some (.array n e)) (hs : (P.info? e).map (·.size) = some 1) (g r q : Nat) (hr : r ≤ q) (hq : q ≤ n) (hrn : r < n) (i j : Int) (hi : i = r) (hj : j = q) (W : World) :
    (Instr.sliceAt t (.pointer (some ⟨g, 0, none⟩)) (some (.int .i64 i)) (some (.int .i64 j)) none).run P W = .ok (.slice (some ⟨g, r, none⟩) (q - r) (n - r)) W := by
  subst hi hj
  cases hq' : P.info? e with
  | none => simp [hq'] at hs
  | some ie =>
    have hsz : ie.size = 1 := by simpa [hq'] using hs
    have h1 : ¬ n = r := by omega
    have h2 : (q : Int) ≤ (n : Int) := by omega
    have h3 : (⟨g, 0, none⟩ : Addr).add r = ⟨g, r, none⟩ := by rw [(addr_add _ _).2 rfl, Nat.zero_add]
    have h4 : (r : Int) ≤ (q : Int) := by omega
    simp [Instr.sliceAt, Instr.sureAddr, Sem.run_bind, run_underlying hu, Instr.sliceBounds, run_sliceBound, sizeOf, typeInfo, hq', hsz, h1, h2, h3, h4]
/-- a part of an array reads as its bytes -/
theorem cut_rb {w : World} {g : Nat} {t : TypeId} {n : Nat} {f : Nat → Nat} (h : Arr w g t .u8 n f) (hf : ∀ i, i < n → f i < 256) (a c : Nat) (hc : a + c ≤ n) : RB w (fun _ _ => True) (some ⟨g, a, none⟩) (cut f a c) := by
  intro _
  refine ⟨g, a, _, t, (0, 0), rfl, h, trivial, fun j b hj => ?_⟩
  have hj' : j < c := by have := (List.getElem?_eq_some_iff.1 hj).1; rw [cut_len] at this; exact this
  rw [cut_get hj'] at hj
  injection hj with hj
  subst hj
  rw [tabV_get (by omega), u8, UInt8.toNat_ofNat', Nat.mod_eq_of_lt (hf _ (by omega))]
theorem wp_run {P : Program} {o : Oper} {a : Act} {w w1 : World} {K : Act → World → Prop} {Q : Exit → Act → World → Prop} {v : Value} (s x : Operand) (t : TypeId)
    (ho : o.op = .call { callee := .builtin .append, args := #[s, x], argTypes := #[t, t] }) (hrun : (Builtin.append_ #[t, t] o.type #[a.eval s, a.eval x]).run P w = .ok v w1) (h : K (a.put o.dst v) w1) : o.wp P a w K Q := by
  unfold Oper.wp execOp
  simp only [ho, resolve, invoke, builtin, Sem.run_bind, Sem.run_pure, Result.andThen_ok, List.map_toArray, List.map_cons, List.map_nil, hrun]
  exact h
/-- a region that draws its order, where one operation turns the world, in a round -/
theorem region_ordL_in {F : Fence} {m : Nat} {P : Program} (hF : Wd F) {id : Nat} {l : List Oper} {R : Act → World → Prop} {Q : Exit → Act → World → Prop} {a : Act} {w : World} (n : Nat) (S : (Nat → Bool) → World → Prop) (hd : noDefer l = true) (hR : ∀ a w, R a w → Q .normal a w)
    (hm : P.follows .mixedOrders = true) (hok : ordOk l.toArray n (l.length - n) = true) (hn : n ≤ l.length) (hin : ((List.range l.length).all fun j => ((dstOf l.toArray j).map fun d => decide (d < a.tmps.size)).getD true) = true) (hS : S (fun _ => false) w.drew)
    (h : wpTxt P l.toArray S (fun a => ∀ L W, (∀ i, i < n → L i = true) → S L W → wpList P l.toArray (nQ R) (l.drop n) a W) 0 (l.take n) a) : (Code.region id l.toArray true).wpIn F m P Q a w :=
  wpIn_region_any hm (any_in hF (by simpa using hd) hR _ _ a _ (any_ordL n S hok hn hin hS h))

theorem zip2 (x : CB) (t : Array Value) (p q : Tmp) : ((#[p, q] : Array Tmp).zip (encs x)).foldl (fun t (y : Tmp × Value) => t.setIfInBounds y.1 y.2) t = (t.setIfInBounds p (.int .i64 (x.1.1 : Nat))).setIfInBounds q (.agg (tabV .u8 16 x.1.2)) := by
  have e : ((#[p, q] : Array Tmp).zip (encs x)) = #[(p, .int .i64 (x.1.1 : Nat)), (q, .agg (tabV .u8 16 x.1.2))] := by
    apply Array.toList_inj.1
    rw [Array.toList_zip]
    rfl
  rw [e]
  rfl
/-- between two rounds -/
def SI (w : World) (B p n : Nat) (pre : List CB) (W : World) : Prop :=
  B ≤ W.heap.size ∧ Ext w W ∧ Num W (w.heap.size + 1 + 1) 3 n ∧ ∃ A c, Box W p 27 (.slice A (ct n pre).length c) ∧ OwnB W 5 w.heap.size A c (ct n pre) ∧ ∀ g, (Value.slice A (ct n pre).length c).ownBlock = some g → g = w.heap.size + 3 ∨ B ≤ g
theorem SI.own {w : World} {B p n : Nat} (hB : w.heap.size ≤ B) : OwnFrom B (SI w B p n) := by
  rintro pre X Y row ⟨hb, hx, hn, A, c, hbox, hown, hrow⟩ hg hr
  have hr' : ∀ r, row = some r → ∃ o : Obj, X.heap[r]? = some o ∧ o.isCells = false := fun r e => (hr r e).2
  refine ⟨Nat.le_trans hb hg.size, grown_new hx hg (fun g e => Nat.le_trans hB (hr g e).1), keepC hg hr' hn, A, c, keepC hg hr' hbox, hown.keep (fun g o hA _ ho => ?_), hrow⟩
  rcases hown.block with ⟨rfl, _, _⟩ | ⟨g', cs, rfl, _, hh, _⟩
  · cases hA
  · injection hA with hA
    injection hA with hA
    subst hA
    rw [hh] at ho
    injection ho with ho
    subst ho
    exact keepC hg hr' hh
theorem OwnB.keepO {X Y : World} {row : Option Nat} {E : TypeId} {base c : Nat} {A : Option Addr} {l : List UInt8} (h : OwnB X E base A c l) (hg : X.grownBy Y row) (hr : ∀ r, row = some r → ∃ o : Obj, X.heap[r]? = some o ∧ o.isCells = false) : OwnB Y E base A c l := by
  refine h.keep (fun g o hA _ ho => ?_)
  rcases h.block with ⟨rfl, _, _⟩ | ⟨g', cs, rfl, _, hh, _⟩
  · cases hA
  · injection hA with hA
    injection hA with hA
    subst hA
    rw [hh] at ho
    injection ho with ho
    subst ho
    exact keepC hg hr hh
theorem OwnB.apart {w : World} {E : TypeId} {base c g : Nat} {A : Option Addr} {l : List UInt8} {cs : Array Value} {t : TypeId} {fr : Nat × Nat} (h : OwnB w E base A c l) (hg : w.heap[g]? = some (.cells cs t fr)) (hne : t ≠ E) : (Value.slice A l.length c).ownBlock ≠ some g := by
  rcases h.block with ⟨rfl, _, _⟩ | ⟨g', cs', rfl, _, hh, _⟩
  · simp [Value.ownBlock]
  · intro e
    simp [Value.ownBlock] at e
    subst e
    rw [hh] at hg
    injection hg with hg
    injection hg with _ ht _
    exact hne ht.symm
theorem OwnB.others {w w' : World} {E : TypeId} {base c : Nat} {A : Option Addr} {l : List UInt8} (h : OwnB w E base A c l) (hg : w.grownBy w' (Value.slice A l.length c).ownBlock) : KeepsOthers w w' := by
  refine KeepsOthers.of_grownBy hg fun j o ej hj => ?_
  rcases h.block with ⟨rfl, _, _⟩ | ⟨g', cs', rfl, _, hh, _⟩
  · simp [Value.ownBlock] at ej
  · simp [Value.ownBlock] at ej
    subst ej
    rw [hh] at hj
    injection hj with hj
    subst hj
    rfl
/-- behind the assignment to the loop's variables -/
def SX (w : World) (p at_ n : Nat) (key nonce : Nat → Nat) (x : CB) (a : Act) (W : World) : Prop := ∃ Bx : Nat, Arr W Bx 22 .u8 16 x.1.2 ∧
  a = { tmps := #[.agg (tabV .u8 16 key), .agg (tabV .u8 8 nonce), .int .i64 (at_ : Nat), .int .i64 (n : Nat), .pointer (some ⟨w.heap.size, 0, none⟩), .pointer (some ⟨w.heap.size + 1, 0, none⟩), undef, .pointer (some ⟨w.heap.size + 1 + 1, 0, none⟩), .slice none 0 0, .pointer (some ⟨p, 0, none⟩),
    .int .i64 (x.1.1 : Nat), .pointer (some ⟨Bx, 0, none⟩), .int .i64 (n : Nat), .slice (some ⟨w.heap.size + 3, 0, none⟩) 0 n, .agg (tabV .u8 16 key), .agg (tabV .u8 8 nonce), .int .i64 (at_ : Nat), .int .i64 (n : Nat),
    .func (.func 33) #[] #[.pointer (some ⟨p + 1 + 2, 0, none⟩), .pointer (some ⟨p + 1 + 3, 0, none⟩), .pointer (some ⟨p + 1, 0, none⟩), .pointer (some ⟨p + 1 + 1, 0, none⟩)], .int .i64 (x.1.1 : Nat), .agg (tabV .u8 16 x.1.2), undef, undef, undef, undef, undef, undef, undef, undef, undef, undef, undef, undef], defers := [] }
theorem SX.own {w : World} {p at_ n B : Nat} {key nonce : Nat → Nat} (x : CB) (a : Act) : OwnFrom B (fun (_ : Unit) W => SX w p at_ n key nonce x a W) := by
  rintro _ X Y row ⟨Bx, hA, ha⟩ hg hr
  exact ⟨Bx, keepC hg (fun r e => (hr r e).2) hA, ha⟩

set_option maxRecDepth 100000 in
set_option maxHeartbeats 2000000 in
theorem stream_c (key nonce : Nat → Nat) (hk : Byt key) (hn : Byt8 nonce) (at_ n : Nat) (hb : at_ + n ≤ 2199023255552) (hm : n ≤ 1048576) (w : World) :
    Calls Try.prog 21 #[.agg (tabV .u8 16 key), .agg (tabV .u8 8 nonce), .int .i64 (at_ : Nat), .int .i64 (n : Nat)] w fun e w' =>
      ∃ A c, e = .returned (.slice A n c) ∧ OwnB w' 5 w.heap.size A c (strm key nonce at_ n) ∧ Ext w w' := by
  obtain ⟨i0, hi0, hz0, hz1, hz2⟩ := info_parts info_u8
  obtain ⟨W1, hW1⟩ : ∃ W, W = ((w.alloc (.cells (tabV .u8 16 key) 22)).alloc (.cells (tabV .u8 8 nonce) 23)).alloc (.cells #[.int .i64 (n : Nat)] 3) := ⟨_, rfl⟩
  have hx1 : Ext w W1 := by rw [hW1]; exact ((Ext.alloc _ _).tr (Ext.alloc _ _)).tr (Ext.alloc _ _)
  obtain ⟨h0, h1, h2⟩ := new3 w (.cells (tabV .u8 16 key) 22) (.cells (tabV .u8 8 nonce) 23) (.cells #[.int .i64 (n : Nat)] 3)
  have hs1 : W1.heap.size = w.heap.size + 3 := by rw [hW1]; simp
  rw [← hW1] at h0 h1 h2
  obtain ⟨w2, hrun, ho2, hg2⟩ := run_make_own (P := Try.prog) W1 w.heap.size 27 5 i0 (.int .u8 0) 1 Try.underlying27 hi0 hz0 hz1 .i64 .i64 n (by rw [hz2]; omega) (by unfold maxLen; omega) hx1.size
  have hx2 : Ext W1 w2 := grown_ext hg2
  rw [hs1] at hrun ho2
  rw [hW1] at hrun
  have hx3 := hx2.tr (Ext.alloc w2 (.cells #[.slice (some ⟨w.heap.size + 3, 0, none⟩) 0 n] 27))
  have HX2 := Lib.hid hx2
  have HO2 := Lib.hid (show OwnB w2 5 w.heap.size (some ⟨w.heap.size + 3, 0, none⟩) n [] from ho2)
  have hnc := (show Num W1 (w.heap.size + 1 + 1) 3 n from h2).ext hx3 |>.cell
  have HK2 := Lib.hid ((show Arr W1 w.heap.size 22 .u8 16 key from h0).ext hx3)
  have HN2 := Lib.hid ((show Arr W1 (w.heap.size + 1) 23 .u8 8 nonce from h1).ext hx3)
  have H0 := Lib.hid (show Arr W1 w.heap.size 22 .u8 16 key from h0)
  have H1 := Lib.hid (show Arr W1 (w.heap.size + 1) 23 .u8 8 nonce from h1)
  have H2 := Lib.hid (show Num W1 (w.heap.size + 1 + 1) 3 n from h2)
  have HX1 := Lib.hid hx1
  have HS1 := Lib.hid hs1
  have HW1 := Lib.hid hW1
  clear h0 h1 h2 hx1 hs1 hW1 ho2 hg2 hx2 hx3
  refine (callsIn_wide (n := 9)).1 (callsIn_of_wp_marks Try.func21 rfl trivial ?_ rfl)
  refine wpIn_wide.2 ?_
  simp only [Try.ntmps21, List.size_toArray, List.length_cons, List.length_nil, Nat.reduceAdd, Nat.reduceSub, Array.replicate_succ, Array.replicate_zero, List.push_toArray, List.append_toArray, List.nil_append, List.cons_append]
  go_wp2_with (first
     | refine wpList_load_arr rfl 22 (.tmp 4) rfl w.heap.size rfl 22 .u8 16 key _ HK2.out Try.underlying22 size_bk ?_
     | refine wpList_load_arr rfl 23 (.tmp 5) rfl (w.heap.size + 1) rfl 23 .u8 8 nonce _ HN2.out Try.underlying23 size_nc ?_)
  have HNW := Lib.hid (new_of w2 (.cells #[.slice (some ⟨w.heap.size + 3, 0, none⟩) 0 n] 27))
  have HXA := Lib.hid (HX1.out.tr (HX2.out.tr (Ext.alloc w2 (.cells #[.slice (some ⟨w.heap.size + 3, 0, none⟩) 0 n] 27))))
  have HOA := Lib.hid (HO2.out.ext (Ext.alloc w2 (.cells #[.slice (some ⟨w.heap.size + 3, 0, none⟩) 0 n] 27)))
  have HNA := Lib.hid ((H2.out.ext HX2.out).ext (Ext.alloc w2 (.cells #[.slice (some ⟨w.heap.size + 3, 0, none⟩) 0 n] 27)))
  have hzw : w.heap.size + 3 ≤ w2.heap.size := by have := HX2.out.size; have := HS1.out; omega
  refine (blocks_c key nonce at_ n _).mono ?_
  obtain ⟨p, hp⟩ : ∃ p, p = w2.heap.size := ⟨_, rfl⟩
  rw [show (w2.alloc (.cells #[.slice (some ⟨w.heap.size + 3, 0, none⟩) 0 n] 27)).heap.size = p + 1 by rw [hp]; simp]
  rw [← hp] at HNW hzw ⊢
  rintro e w4 ⟨rfl, ha4, hb4, hc4, hd4, hx4, hs4⟩
  have HA4 := Lib.hid ha4
  have HB4 := Lib.hid hb4
  have HC4 := Lib.hid (show Num w4 (p + 3) 3 at_ from hc4)
  have HD4 := Lib.hid (show Num w4 (p + 4) 3 n from hd4)
  have HS4 := Lib.hid (show Box w4 p 27 (.slice (some ⟨w.heap.size + 3, 0, none⟩) 0 n) from hx4.get HNW.out)
  have HO4 := Lib.hid (HOA.out.ext hx4)
  have HN4 := Lib.hid (HNA.out.ext hx4)
  have HX4 := Lib.hid (HXA.out.tr hx4)
  have HZ4 := Lib.hid (show w4.heap.size = p + 5 from hs4)
  clear ha4 hb4 hc4 hd4 hx4 hs4 hp hnc hrun
  clear HNW HXA HOA HNA HX1 HX2 HO2 H0 H1 H2 HS1 HW1 HK2 HN2
  go_wp2_with fail
  refine (wpIn_wide (n := 9)).1 ?_
  refine wpIn_rangeFunc_ownH (F := Fence.wide) rfl (by decide) (gf := 33) (lb := #[.pointer (some ⟨p + 1 + 2, 0, none⟩), .pointer (some ⟨p + 1 + 3, 0, none⟩), .pointer (some ⟨p + 1, 0, none⟩), .pointer (some ⟨p + 1 + 1, 0, none⟩)]) rfl trivial (enters_of Try.func33 (by kernel_rfl) rfl)
    (blocks_stops (p + 1) (p + 1 + 1) (p + 1 + 2) (p + 1 + 3) (9 - 1) key nonce hk hn at_ n hb w4 HA4.out HB4.out HC4.out HD4.out) (fun h k => ⟨k.1.trans h.1, k.2.trans h.2⟩) ?kb (Ext.refl w4) (fun _ => rfl)
    (SI w w4.heap.size p n) (fun _ _ _ => False) (SI.own HX4.out.size) (fun _ _ _ _ _ h _ _ => h) ?start (SX w p at_ n key nonce) (fun x a => SX.own x a) ?assign ?body ?done ?stop
  case kb =>
    intro W l o o' hl h _ _
    have hz := HZ4.out
    have hw := (Array.getElem?_eq_some_iff.1 h).1
    exact ⟨World.putObj_heap_other (by omega), World.putObj_heap_other (by omega)⟩
  case start => exact ⟨Nat.le_refl _, HX4.out, HN4.out, _, _, HS4.out, HO4.out, fun g hg => by simp [Value.ownBlock] at hg; omega⟩
  case assign =>
    rintro l pre x W K hI hK
    rw [zip2]
    simp only [List.setIfInBounds_toArray, List.set_cons_zero, List.set_cons_succ]
    refine wpIn_seq_k fun K1 hK1 => ?_
    refine region_in (R := K1) (wd_round l) (by kernel_rfl) (fun _ _ h => h) ?_
    go_wp2_with fail
    refine ⟨rfl, hK1 _ _ ?_⟩
    clear hK1
    refine region_in (R := K) (wd_round l) (by kernel_rfl) (fun _ _ h => h) ?_
    go_wp2_with (refine wpList_store_arr' rfl rfl 22 (.tmp 11) (.tmp 20) rfl W.heap.size .u8 16 x.1.2 rfl rfl 22 _ (new_of _ _) size_bk rfl ?_; intro w5 hA5 hG5)
    have hx5 : Ext W w5 := grown_new (Ext.alloc _ _) hG5 (fun g hg => by simp at hg; omega)
    have hz := HZ4.out
    obtain ⟨hb5, hx, hn5, A, c, hbox, hown, hrow⟩ := hI
    refine ⟨rfl, hK _ _ (keeps_ext hx5 _) ⟨hx5.block _ (by omega), hx5.block _ (by omega)⟩ ⟨Nat.le_trans hb5 hx5.size, hx.tr hx5, hn5.ext hx5, A, c, hbox.ext hx5, hown.ext hx5, hrow⟩ ⟨W.heap.size, hA5, rfl⟩⟩
  case body =>
    rintro l pre x a' W hl hrec ⟨hb5, hx, hn5, A, c, hbox, hown, hrow⟩ ⟨Bx, hA, rfl⟩ hlen
    refine wpIn_block ?_
    obtain ⟨⟨r, f⟩, hr16, hf⟩ := x
    have hkn := ct_le n pre
    obtain ⟨k, hk'⟩ : ∃ k, k = (ct n pre).length := ⟨_, rfl⟩
    obtain ⟨m, hm'⟩ : ∃ m, m = hmc n k r := ⟨_, rfl⟩
    have hm16 : r + m = min 16 (r + (n - k)) := by rw [hm']; unfold hmc; omega
    have hmn : m ≤ 16 := by omega
    obtain ⟨wd, hwd⟩ : ∃ wd, wd = W.drew := ⟨_, rfl⟩
    have xd : Ext W wd := by rw [hwd]; exact Ext.drew _
    have xo : KeepsOthers W wd := by rw [hwd]; exact KeepsOthers.drew _
    have hxd := hx.tr xd
    have hod := hown.ext xd
    have hbd := hbox.ext xd
    have hnd := hn5.ext xd
    have hAd := hA.ext xd
    obtain ⟨A', c', w1, hrun, ho1, hg1, hb1⟩ := run_append_bytes (P := Try.prog) wd w.heap.size 27 27 5 i0 Try.underlying27 hi0 hz0 hz1 hz2 A c (ct n pre) hod _ (some ⟨Bx, r, none⟩) (16 - r) (cut f r m) (cut_rb hAd hf r m (by omega)) (by rw [cut_len]; omega) hxd.size
    have hct : ct n (pre ++ [(⟨(r, f), hr16, hf⟩ : CB)]) = ct n pre ++ cut f r m := by rw [ct_snoc, hm', hk']
    have hl1 : (ct n pre ++ cut f r m).length = k + m := by rw [List.length_append, cut_len, hk']
    have hap := hod.apart hbd (by decide)
    have han := hod.apart hnd (by decide)
    have hb1' := grown_get hg1 hbd hap
    have hn1' := grown_get hg1 hnd han
    have xo1 := xo.trans (hod.others hg1)
    have hx1 := grown_new hxd hg1 hod.ge
    have hcs : ∀ V, (V = wd ∨ V = w1) → V.cell? ⟨p, 0, none⟩ = some (.slice A k c) := by
      rw [hk']
      rintro V (rfl | rfl)
      · exact hbd.cell
      · exact Box.cell hb1'
    have hcn : ∀ V, (V = wd ∨ V = w1) → V.cell? ⟨w.heap.size + 1 + 1, 0, none⟩ = some (.int .i64 (n : Nat)) := by
      rintro V (rfl | rfl)
      · exact hnd.cell
      · exact Num.cell hn1'
    have hfr := Box.free hb1'
    have hsl := fun V => run_slice_arr_mid (P := Try.prog) (t := 22) Try.underlying22 size_u8 Bx r (r + m) (by omega) (by omega) hr16 (r : Int) ((r : Int) + (m : Int)) rfl (by omega) V
    rw [show r + m - r = m by omega] at hsl
    rw [cut_len, hl1, ← hk'] at hrun
    have qa : IntKind.i64.wrap ((r : Int) + (n : Int)) = (r : Int) + (n : Int) := IntWalk.i64_in _ (by omega)
    have qb : IntKind.i64.wrap ((r : Int) + (n : Int) - (k : Int)) = (r : Int) + (n : Int) - (k : Int) := IntWalk.i64_in _ (by omega)
    have qc : (if (r : Int) + (n : Int) - (k : Int) < 16 then (r : Int) + (n : Int) - (k : Int) else 16) = (r : Int) + (m : Int) := by split <;> omega
    have HRUN := Lib.hid hrun
    have HCT := Lib.hid hct
    have HL1 := Lib.hid hl1
    have HB1 := Lib.hid hb1'
    have HN1 := Lib.hid hn1'
    have HXO := Lib.hid xo1
    have HX1 := Lib.hid hx1
    have HO1 := Lib.hid ho1
    have HG1 := Lib.hid hg1
    have HBB := Lib.hid hb1
    have HWD := Lib.hid hwd
    have HK := Lib.hid hk'
    have HROW := Lib.hid hrow
    have HB5 := Lib.hid hb5
    have HCS := Lib.hid hcs
    have HCN := Lib.hid hcn
    have HR16 := Lib.hid hr16
    have HM := Lib.hid hm16
    clear hrun hct hl1 hb1' hn1' xo1 hx1 ho1 hg1 hb1 hwd hk' hrow hb5 hcs hcn hbd hnd hod hap han hAd xo xd hxd hm' hbox hown hn5 hx hA hm16
    refine region_ordL_in (R := fun _ W' => KeepsFrom w4.heap.size W W' ∧ Mid (p + 1) (p + 1 + 1) W W' ∧ SI w w4.heap.size p n (pre ++ [(⟨(r, f), hr16, hf⟩ : CB)]) W') (wd_round l) 11 (Alt 10 wd w1) (by kernel_rfl) (fun _ _ h => h) (by kernel_rfl) (by kernel_rfl) (by decide) (by kernel_rfl) (by unfold Alt; rw [HWD.out]; rfl) ?_
    simp only [List.take_succ_cons, List.take_zero, List.drop_succ_cons, List.drop_zero]
    repeat (refine wpTxt_alt ?_ (by decide) (fun W K hS hK => ?_) rfl ?_; rotate_left; (have c1 := HCS.out W hS; have c2 := HCN.out W hS; simp only [Act.put, List.setIfInBounds_toArray, List.set_cons_zero, List.set_cons_succ] at hK; go_simp; exact hK); simp only [Act.put, List.setIfInBounds_toArray, List.set_cons_zero, List.set_cons_succ])
    refine wpTxt_turn (.slice A' (k + m) c') (fun K hK => wp_run (.tmp 21) (.tmp 30) 27 rfl HRUN.out hK) rfl ?_
    simp only [Act.put, List.setIfInBounds_toArray, List.set_cons_zero, List.set_cons_succ]
    refine wpTxt_nil ?_
    intro L V hL hS
    have hV : V = w1 := by
      unfold Alt at hS
      rw [hL 10 (by decide), if_pos rfl] at hS
      exact hS
    subst hV
    have c1 := HCS.out V (.inr rfl)
    go_wp2_with fail
    have hz := HZ4.out
    have hb5 := HB5.out
    have hxd : wd.heap.size = W.heap.size := by rw [HWD.out]; rfl
    have hwb : ∀ g : Nat, wd.heap[g]? = W.heap[g]? := fun g => by rw [HWD.out]; rfl
    have hrow := HROW.out
    have hmid : ∀ g : Nat, p < g → g < p + 5 → (V.setCell ⟨p, 0, none⟩ (.slice A' (k + m) c')).heap[g]? = W.heap[g]? := fun g h1 h2 => by
      rw [Below.heap_setCell V ⟨p, 0, none⟩ _ g (by simp; omega)]
      refine (HG1.out.block g (by omega) (fun e => ?_)).trans (hwb g)
      rcases hrow g e.symm with h | h <;> omega
    refine ⟨rfl, (HXO.out.trans (KeepsOthers.setCell _ _ _)).from _, ⟨hmid _ (by omega) (by omega), hmid _ (by omega) (by omega)⟩, ?_⟩
    unfold SI
    rw [HCT.out, HL1.out]
    refine ⟨?_, ext_setCell HX1.out (by simp; omega) _, ?_, A', c', Box.set_ HB1.out _, ?_, fun g hg => ?_⟩
    · have h1 := HG1.out.size
      simp only [World.size_setCell]
      omega
    · exact (Below.heap_setCell V ⟨p, 0, none⟩ _ _ (by simp; omega)).trans HN1.out
    · exact HO1.out.far (grown_set ⟨p, 0, none⟩ rfl _) HB1.out (by decide)
    · rcases HBB.out with h | h
      · rw [HL1.out] at h
        exact hrow g (by rw [← h]; exact hg)
      · rw [HL1.out, hxd] at h
        rw [h] at hg
        injection hg with hg
        exact .inr (by omega)
  case done =>
    rintro D xs W hD rfl ⟨hb5, hx, hn5, A, c, hbox, hown, hrow⟩ hK
    rw [ct_bl] at hbox hown hrow
    rw [strm_len] at hbox hrow
    have hcell := hbox.cell
    have HO := Lib.hid hown
    have HX := Lib.hid hx
    have HK := Lib.hid hK
    clear hbox hown hx hK
    go_wp2_with fail
    refine ⟨by simp, .inl ⟨_, _, rfl, run_takeDeferred HK.out, ?_⟩⟩
    have hg := grownBy_putObj' W D (.deferred none)
    refine ⟨_, results_tmp rfl _ _ _, A, c, rfl, HO.out.keepO hg (fun r e => by cases e; exact ⟨_, HK.out, rfl⟩), grown_new HX.out hg (fun g e => by cases e; exact Nat.le_trans HX4.out.size hD)⟩
  case stop =>
    rintro D c pre W _ _ h _
    exact h.elim
end Go.Proofs.Ytdmfajcbbolfiaa
