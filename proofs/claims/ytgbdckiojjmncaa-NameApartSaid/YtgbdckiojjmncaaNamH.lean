/-
  Names as bytes: the package's and the reference's.
-/
import Derived.Test.YtgbdckiojjmncaaNamD
import Derived.Test.YtgbdckiojjmncaaWireC
import Derived.Deep.RegionHeld3
namespace Go.Proofs.Ytgbdckiojjmncaa
open Go.RowKit

/-- a word as bytes: its length ahead -/
def fl (l : List UInt8) : List UInt8 := nb 1 l.length ++ l
/-- a name as bytes -/
def nbs (r : List UInt8) (ps : List (List UInt8)) : List UInt8 := fl r ++ nb 1 ps.length ++ ps.flatMap fl
theorem nb1 (x : Nat) (h : x < 256) : nb 1 x = [UInt8.ofNat x] := by
  simp only [nb, List.nil_append]
  rw [Nat.mod_eq_of_lt h]
theorem fl_len (l : List UInt8) : (fl l).length = l.length + 1 := by rw [fl, List.length_append, nb_length]; omega

theorem wpList_append_str' {P : Program} (w : World) {ops : Array Oper} {rest : List Oper} {o : Oper} {a : Act} {Q : Exit → Act → World → Prop} (hgd : o.guard = none) (s x : Operand) (t u : TypeId)
    (ho : o.op = .call { callee := .builtin .append, args := #[s, x], argTypes := #[t, u] })
    (base : Nat) (E : TypeId) (i : TypeInfo) (ht : P.underlying t = some (.slice E)) (hu : P.underlying u = some .string) (hi : P.info? E = some i) (hz : i.zero = some (.int .u8 0)) (hsz : i.size = 1) (hy : i.bytes = 1)
    (A : Option Addr) (c : Nat) (l : List UInt8) (n : Nat) (hs : a.eval s = .slice A n c) (hn : l.length = n) (hown : OwnB w E base A c l) (st : ByteArray) (hx : a.eval x = .string st)
    (hlen : n + st.size ≤ 140737488355328) (hbase : base ≤ w.heap.size)
    (h : ∀ A' c' w', OwnB w' E base A' c' (l ++ bl st) → w.grownBy w' (Value.slice A n c).ownBlock → wpList P ops Q rest (a.put o.dst (.slice A' (n + st.size) c')) w') : wpList P ops Q (o :: rest) a w := by
  subst hn
  have hsz2 : st.data.toList.length = st.size := Array.length_toList
  refine Lib.wpList_append_own_string w hgd s x t u ho base E i ht hu hi hz hsz hy (.slice A l.length c) l.length (l.map u8) hs hown st hx (by unfold maxLen; omega) (by omega) hbase ?_
  intro v' w' h2 h3 _
  have e : l.map u8 ++ Lib.strCells st = (l ++ st.data.toList).map u8 := by rw [List.map_append]; rfl
  rw [e] at h2
  have h' : w'.ownsRow base E 1 v' (l ++ st.data.toList).length ((l ++ st.data.toList).map u8) := by rw [List.length_append, hsz2]; exact h2
  have shape : ∃ A' c', v' = .slice A' (l ++ st.data.toList).length c' := by
    rcases h'.2 with ⟨rfl, hn⟩ | ⟨g, cap, cs, rfl, _⟩
    · exact ⟨none, 0, by rw [hn]⟩
    · exact ⟨_, _, rfl⟩
  obtain ⟨A', c', rfl⟩ := shape
  rw [List.length_append, hsz2]
  exact h A' c' w' h' h3

set_option maxRecDepth 100000 in
set_option maxHeartbeats 1000000 in
theorem field_c (s : ByteArray) (w : World) (hs : s.size < 256) : Calls Try.prog 28 #[.string s] w fun e w' => ∃ A c, e = .returned (.slice A (fl (bl s)).length c) ∧ OwnB w' 5 w.heap.size A c (fl (bl s)) ∧ Ext w w' := by
  have HL := Lib.hid (bl_len s)
  go_enter Try.func28, Try.ntmps28
  go_wp2_with (refine wpList_conv_str _ rfl 9 28 (.tmp 6) rfl 5 Try.underlying9 Try.underlying28 Try.underlying5 s rfl (by unfold maxLen; omega) ?_
               intro g c w1 hr hc hm hg hg2 hx1)
  have hp := puts_c 1 (some ⟨g, 0, none⟩) c (bl s) _ w1 hr ⟨by omega, by omega⟩ (by rw [HL.out]; omega) (by rw [HL.out]; omega)
  rw [HL.out] at hp
  refine hp.mono ?_
  rintro e w2 ⟨B, d, rfl, hB, hx2⟩
  have hfl : nb 1 s.size ++ bl s = fl (bl s) := by rw [fl, HL.out]
  rw [hfl] at hB ⊢
  have HB := Lib.hid (hB.less hx1.size)
  have HX := Lib.hid (hx1.tr hx2)
  clear hp hB hx1 hx2 hr
  go_wp2_with fail
  go_ret
  exact ⟨B, d, rfl, HB.out, HX.out⟩

theorem OwnV.lit {w : World} {E : TypeId} {base : Nat} (vs : List Value) (hb : base ≤ w.heap.size) (hm : vs.length ≤ maxLen) : OwnV (w.alloc (.cells vs.toArray E)) E base (some ⟨w.heap.size, 0, none⟩) vs.length vs := by
  refine ⟨by simp, .inr ⟨w.heap.size, vs.length, vs.toArray, rfl, hb, new_of _ _, Nat.le_refl _, hm, by simp, ?_⟩⟩
  simp
theorem AsRows.two {w : World} {T : Nat → TypeId → Prop} {A B : Option Addr} {l m : List UInt8} {n k : Nat} (h : RB w T A l) (hk : RB w T B m) (c d : Nat) (hn : l.length = n) (hm : m.length = k) : AsRows w T [.slice A n c, .slice B k d] [l, m] := by
  subst hn hm
  refine ⟨rfl, fun j x hj => ?_⟩
  match j, hj with
  | 0, hj =>
    injection hj with hj
    subst hj
    exact ⟨A, c, rfl, h⟩
  | 1, hj =>
    injection hj with hj
    subst hj
    exact ⟨B, d, rfl, hk⟩
theorem info_row : (Try.prog.info? 28).map (fun i => (i.zero, i.size, i.bytes)) = some (some (.slice none 0 0), 1, 24) := by kernel_rfl
/-- bytes in rows of bytes -/
def TB : Nat → TypeId → Prop := fun _ t => t = 5
theorem TB.not (g : Nat) : ¬ TB g 28 := by unfold TB; decide
theorem OwnB.tb {w : World} {base c : Nat} {A : Option Addr} {l : List UInt8} (h : OwnB w 5 base A c l) : RB w TB A l := h.rb.more (fun _ _ h => h.2.1)
theorem flatMap_take_len (ps : List (List UInt8)) (h : ∀ p ∈ ps, p.length ≤ 100) : (ps.flatMap fl).length ≤ 101 * ps.length := by
  induction ps with
  | nil => simp
  | cons p ps ih =>
    rw [List.flatMap_cons, List.length_append, List.length_cons, fl_len]
    have h1 := h p (by simp)
    have h2 := ih (fun q hq => h q (by simp [hq]))
    omega

set_option maxRecDepth 100000 in
set_option maxHeartbeats 4000000 in
theorem nbytes_c (s : ByteArray) (A : Option Addr) (c : Nat) (ss : List ByteArray) (S : Nat → TypeId → Prop) (w : World) (h : SR w S A ss) (hs : s.size ≤ 9223372036854775807) (hz : ∀ t ∈ ss, t.size ≤ 9223372036854775807) (hn : ss.length ≤ 9223372036854775807) (hv : vl (bl s) (bls ss) = true) :
    Calls Try.prog 10 #[.agg #[.string s, .slice A ss.length c]] w fun e w' => ∃ B d, e = .returned (.tuple #[.slice B (nbs (bl s) (bls ss)).length d, .bool true]) ∧ OwnB w' 5 w.heap.size B d (nbs (bl s) (bls ss)) ∧ Ext w w' := by
  obtain ⟨i0, hi0, hz0, hz1, hz2⟩ := info_parts' info_row
  have hd := new_of w (.cells #[.string s, .slice A ss.length c] 24)
  obtain ⟨wo, hwo⟩ : ∃ wo : World, wo = w.alloc (.cells #[.string s, .slice A ss.length c] 24) := ⟨_, rfl⟩
  rw [← hwo] at hd
  have hx0 : Ext w wo := by rw [hwo]; exact Ext.alloc _ _
  have hval := valid_c s A c ss S wo (h.ext hx0) hs hz hn
  rw [hv] at hval
  obtain ⟨v1, v2, v3, v4⟩ := vl_parts hv
  rw [bls_len] at v1 v2
  have hsl := (wd_len v4).2
  rw [bl_len] at hsl
  have hpl : ∀ (k : Nat) (hk : k < ss.length), (ss[k]).size ≤ 100 := fun k hk => by
    have := (wd_len (v3 (bl ss[k]) (List.mem_map.2 ⟨ss[k], List.getElem_mem _, rfl⟩))).2
    rw [bl_len] at this
    exact this
  have hfm := flatMap_take_len (bls ss) (fun p hp => (wd_len (v3 p hp)).2)
  rw [bls_len] at hfm
  have H := Lib.hid h
  have HD := Lib.hid hd
  have HX0 := Lib.hid hx0
  have HW := Lib.hid hwo
  have HPL := Lib.hid hpl
  have HFM := Lib.hid hfm
  rw [hwo] at hval
  have HVAL := Lib.hid hval
  clear h hz hd hx0 hpl hfm v3 v4 hv hval
  go_enter Try.func10, Try.ntmps10
  go_wp2_with fail
  refine HVAL.out.mono ?_
  rintro e w1 ⟨rfl, hx1⟩
  rw [← HW.out] at hx1
  have hd1 := hx1.get HD.out
  have c0 : w1.cell? ⟨w.heap.size, 0, none⟩ = some (.string s) := cells_of hd1 0
  have c1 : w1.cell? ⟨w.heap.size, 1, none⟩ = some (.slice A ss.length c) := cells_of hd1 1
  have HD1 := Lib.hid hd1
  have HX1 := Lib.hid (HX0.out.tr hx1)
  have hn64 : (ss.length : Int) % 18446744073709551616 = (ss.length : Int) := by omega
  clear hx1 hd1 hwo
  go_wp2_with fail
  refine (put_c 1 ss.length _ ⟨by omega, by omega⟩ (by omega) (by omega)).mono ?_
  rintro e w2 ⟨B, d, rfl, hB, hx2⟩
  rw [nb_length]
  have hd2 := hx2.get HD1.out
  have k0 : w2.cell? ⟨w.heap.size, 0, none⟩ = some (.string s) := cells_of hd2 0
  have HD2 := Lib.hid hd2
  have HX2 := Lib.hid (HX1.out.tr hx2)
  have HB := Lib.hid hB
  clear hB hx2 hd2 c0 c1
  go_wp2_with fail
  refine (field_c s w2 (by omega)).mono ?_
  rintro e w3 ⟨F, f, rfl, hF, hx3⟩
  rw [fl_len, bl_len]
  have hd3 := hx3.get HD2.out
  have hxa := Ext.alloc w3 (.cells #[.slice F (s.size + 1) f, .slice B 1 d] 28)
  have hd4 := hxa.get hd3
  have m1 : (w3.alloc (.cells #[.slice F (s.size + 1) f, .slice B 1 d] 28)).cell? ⟨w.heap.size, 1, none⟩ = some (.slice A ss.length c) := cells_of hd4 1
  have hrow := OwnV.lit (w := w3) (E := 28) (base := w.heap.size) [.slice F (s.size + 1) f, .slice B 1 d] (HX2.out.tr hx3).size (by simp [maxLen])
  have has : AsRows (w3.alloc (.cells #[.slice F (s.size + 1) f, .slice B 1 d] 28)) TB [.slice F (s.size + 1) f, .slice B 1 d] [fl (bl s), nb 1 ss.length] :=
    AsRows.two (hF.tb.ext hxa) ((HB.out.ext (hx3.tr hxa)).tb) f d (by rw [fl_len, bl_len]) (nb_length _ _)
  have HX3 := Lib.hid ((HX2.out.tr hx3).tr hxa)
  have HROW := Lib.hid hrow
  have HAS := Lib.hid has
  have HD4 := Lib.hid hd4
  clear hx3 hxa hd3 hd4 hrow has hF k0 HB
  go_wp2_with fail
  go_loopw [6, 8, 28] (fun v _ i wr => ∃ (k : Nat) (C : Option Addr) (e : Nat) (vs : List Value), k ≤ ss.length ∧ i = .int .i64 k ∧ v = .slice C (k + 2) e ∧ vs.length = k + 2 ∧ OwnV wr 28 w.heap.size C e vs ∧ AsRows wr TB vs ([fl (bl s), nb 1 ss.length] ++ ((bls ss).take k).map fl) ∧ Ext w wr) (fun _ _ i _ => ss.length - (intOf i).toNat)
  case atStart => exact ⟨0, _, 2, _, Nat.zero_le _, rfl, rfl, rfl, HROW.out, by simpa using HAS.out, HX3.out⟩
  case round =>
    obtain ⟨k, C, e, vs, hk, rfl, rfl, hvl, hor, hasr, hx⟩ := hrel
    have HX := Lib.hid hx
    have HOR := Lib.hid hor
    have HASR := Lib.hid hasr
    have hsz := hx.size
    clear hx hor hasr
    by_cases hlt : k < ss.length
    · obtain ⟨g, off, rfl, hc⟩ := (H.out.ext HX.out).cell hlt
      have hps := HPL.out k hlt
      go_wp2_with fail
      refine (field_c ss[k] wr (by omega)).mono ?_
      rintro e' w4 ⟨G, q, rfl, hG, hx4⟩
      rw [fl_len, bl_len]
      have hxa := Ext.alloc w4 (.cells #[.slice G ((ss[k]).size + 1) q] 28)
      have hor4 := (HOR.out.ext hx4).ext hxa
      have has4 := (HASR.out.ext hx4).ext hxa
      have hG4 := (hG.ext hxa).tb
      have HOR4 := Lib.hid hor4
      have HAS4 := Lib.hid has4
      have HG4 := Lib.hid hG4
      have HX4 := Lib.hid ((HX.out.tr hx4).tr hxa)
      have hgl : (fl (bl ss[k])).length = (ss[k]).size + 1 := by rw [fl_len, bl_len]
      have HGL := Lib.hid hgl
      have htk : ((bls ss).take (k + 1)).map fl = ((bls ss).take k).map fl ++ [fl (bl ss[k])] := by
        rw [List.take_succ_eq_append_getElem (by rw [bls_len]; exact hlt), List.map_append, bls_get hlt]
        rfl
      have HTK := Lib.hid htk
      have hsz4 := HX4.out.size
      clear hor4 has4 hG4 hG hx4 hxa hgl htk
      go_wp2_with (at_builtin; refine wpList_append_one _ rfl _ _ 51 rfl w.heap.size 28 i0 (.slice none 0 0) 24 Try.underlying51 hi0 hz0 hz1 hz2 rfl C e vs (by rw [hvl]; rfl) HOR4.out w4.heap.size (.slice G ((ss[k]).size + 1) q) rfl (cells_of (new_of _ _) 0) rfl (by rw [hvl]; unfold maxLen; omega) (by rw [hvl]; omega) hsz4 ?_
                   intro C2 e2 w5 ho5 hg5)
      have hx5 : Ext w w5 := grown_new HX4.out hg5 HOR4.out.ge
      have has5 := HAS4.out.ownV HOR4.out hg5 TB.not
      have hG5 := HG4.out.ownV HOR4.out hg5 TB.not
      have has6 := has5.snoc (d := q) hG5
      rw [HGL.out, List.append_assoc, ← HTK.out] at has6
      have hvl2 : (vs ++ [Value.slice G ((ss[k]).size + 1) q]).length = k + 1 + 2 := by rw [List.length_append, hvl]; rfl
      go_roundw
      case rel => exact ⟨k + 1, C2, e2, _, by omega, by go_num, rfl, hvl2, ho5, has6, hx5⟩
      case measure => simp [intOf]; omega
    · have hall : ([fl (bl s), nb 1 ss.length] ++ ((bls ss).take k).map fl).flatten = nbs (bl s) (bls ss) := by
        rw [List.take_of_length_le (by rw [bls_len]; omega), List.flatten_append, nbs, bls_len, List.flatMap_def]
        simp
      have hrbs := HOR.out.rbs HASR.out
      have hrl : ([fl (bl s), nb 1 ss.length] ++ ((bls ss).take k).map fl).length = k + 2 := by
        rw [List.length_append, List.length_map, List.length_take, bls_len]
        simp
        omega
      have hj := join_c C e ([fl (bl s), nb 1 ss.length] ++ ((bls ss).take k).map fl) _ _ wr hrbs (by
        rw [hall, nbs, List.length_append, List.length_append, fl_len, nb_length, bl_len]
        have := HFM.out
        omega) (by rw [hrl]; omega)
      rw [hall, hrl] at hj
      have HJ := Lib.hid hj
      clear hj hrbs hall hrl
      go_wp2_with fail
      refine HJ.out.mono ?_
      rintro e' w6 ⟨J, j, rfl, hJ, hx6⟩
      have HJ6 := Lib.hid (hJ.less hsz)
      have HX6 := Lib.hid (HX.out.tr hx6)
      clear hJ hx6 HJ
      go_wp2_with fail
      go_ret2
      exact ⟨J, j, rfl, HJ6.out, HX6.out⟩

set_option maxRecDepth 100000 in
set_option maxHeartbeats 1000000 in
theorem nbytes_no (s : ByteArray) (A : Option Addr) (c : Nat) (ss : List ByteArray) (S : Nat → TypeId → Prop) (w : World) (h : SR w S A ss) (hs : s.size ≤ 9223372036854775807) (hz : ∀ t ∈ ss, t.size ≤ 9223372036854775807) (hn : ss.length ≤ 9223372036854775807) (hv : vl (bl s) (bls ss) = false) :
    Calls Try.prog 10 #[.agg #[.string s, .slice A ss.length c]] w fun e w' => e = .returned (.tuple #[.slice none 0 0, .bool false]) ∧ Ext w w' := by
  have hval := valid_c s A c ss S (w.alloc (.cells #[.string s, .slice A ss.length c] 24)) (h.ext (Ext.alloc _ _)) hs hz hn
  rw [hv] at hval
  have HVAL := Lib.hid hval
  clear h hz hv hval
  go_enter Try.func10, Try.ntmps10
  go_wp2_with fail
  refine HVAL.out.mono ?_
  rintro e w1 ⟨rfl, hx1⟩
  have HX := Lib.hid ((Ext.alloc _ _).tr hx1)
  clear hx1
  go_wp2_with fail
  go_ret2
  exact ⟨rfl, HX.out⟩

/-- 'append(out, s...)' of a string in a region that draws its order -/
theorem step_append_str' {P : Program} (w : World) {ops : Array Oper} {o : Oper} {a : Act} {K : Act → World → Prop} {Q : Exit → Act → World → Prop} {G : Prop} (hgd : o.guard = none) (s x : Operand) (t u : TypeId)
    (ho : o.op = .call { callee := .builtin .append, args := #[s, x], argTypes := #[t, u] })
    (base : Nat) (E : TypeId) (i : TypeInfo) (ht : P.underlying t = some (.slice E)) (hu : P.underlying u = some .string) (hi : P.info? E = some i) (hz : i.zero = some (.int .u8 0)) (hsz : i.size = 1) (hy : i.bytes = 1)
    (A : Option Addr) (c : Nat) (l : List UInt8) (n : Nat) (hs : a.eval s = .slice A n c) (hn : l.length = n) (hown : OwnB w E base A c l) (st : ByteArray) (hx : a.eval x = .string st)
    (hlen : n + st.size ≤ 140737488355328) (hbase : base ≤ w.heap.size)
    (h : ∀ A' c' w', OwnB w' E base A' c' (l ++ bl st) → w.grownBy w' (Value.slice A n c).ownBlock → K (a.put o.dst (.slice A' (n + st.size) c')) w') :
    if Region.wanted o (yielded ops a.tmps) = true then Oper.wp P o a w K Q else G := by
  subst hn
  have hsz2 : st.data.toList.length = st.size := Array.length_toList
  obtain ⟨v', w', hrun, h2, h3, _⟩ := Lib.run_append_own_string (P := P) w base t u o.type E i ht hu hi hz hsz hy (.slice A l.length c) l.length (l.map u8) hown st (by unfold maxLen; omega) (by omega) hbase
  have e : l.map u8 ++ Lib.strCells st = (l ++ st.data.toList).map u8 := by rw [List.map_append]; rfl
  rw [e] at h2
  have h' : w'.ownsRow base E 1 v' (l ++ st.data.toList).length ((l ++ st.data.toList).map u8) := by rw [List.length_append, hsz2]; exact h2
  have shape : ∃ A' c', v' = .slice A' (l ++ st.data.toList).length c' := by
    rcases h'.2 with ⟨rfl, hn⟩ | ⟨g, cap, cs, rfl, _⟩
    · exact ⟨none, 0, by rw [hn]⟩
    · exact ⟨_, _, rfl⟩
  obtain ⟨A', c', rfl⟩ := shape
  rw [if_pos (by simp [Region.wanted, hgd])]
  unfold Oper.wp execOp
  simp only [ho, resolve, invoke, builtin, Sem.run_bind, Sem.run_pure, Result.andThen_ok, List.map_toArray, List.map_cons, List.map_nil, hs, hx, hrun]
  have := h A' c' w' h' h3
  rw [List.length_append, hsz2]
  exact this
theorem lit_wrap {n : Nat} (h : n < 256) : (#[Value.int .u8 (IntKind.u8.wrap (n : Int))] : Array Value).toList = [UInt8.ofNat n].map u8 := by
  rw [List.map_cons, List.map_nil, u8, UInt8.toNat_ofNat', Nat.mod_eq_of_lt h, IntKind.wrap_u8', show (n : Int) % 256 = (n : Int) by omega]
theorem ext_cell {w w' : World} (h : Ext w w') {a : Addr} {v : Value} (hc : w.cell? a = some v) : w'.cell? a = some v := by
  have hlt := World.block_lt_of_cell? w a hc
  unfold World.cell? at *
  rw [h.block _ hlt]
  exact hc
theorem u8_nat {n : Nat} (h : n < 256) : u8 (UInt8.ofNat n) = .int .u8 (n : Int) := by
  unfold u8
  rw [UInt8.toNat_ofNat', Nat.mod_eq_of_lt h]
theorem lit_one {n : Nat} (h : n < 256) : (#[Value.int .u8 (n : Int)] : Array Value).toList = [UInt8.ofNat n].map u8 := by
  rw [List.map_cons, List.map_nil, u8_nat h]

set_option maxRecDepth 100000 in
set_option maxHeartbeats 4000000 in
theorem rbytes_c (s : ByteArray) (A : Option Addr) (c : Nat) (ss : List ByteArray) (S : Nat → TypeId → Prop) (w : World) (h : SR w S A ss) (hv : vl (bl s) (bls ss) = true) :
    Calls Try.prog 18 #[.agg #[.string s, .slice A ss.length c]] w fun e w' => ∃ B d, e = .returned (.slice B (nbs (bl s) (bls ss)).length d) ∧ OwnB w' 5 w.heap.size B d (nbs (bl s) (bls ss)) ∧ Ext w w' := by
  obtain ⟨i0, hi0, hz0, hz1, hz2⟩ := info_parts info_u8
  obtain ⟨v1, v2, v3, v4⟩ := vl_parts hv
  rw [bls_len] at v1 v2
  have hsl := (wd_len v4).2
  rw [bl_len] at hsl
  have hpl : ∀ (k : Nat) (hk : k < ss.length), (ss[k]).size ≤ 100 := fun k hk => by
    have := (wd_len (v3 (bl ss[k]) (List.mem_map.2 ⟨ss[k], List.getElem_mem _, rfl⟩))).2
    rw [bl_len] at this
    exact this
  have H := Lib.hid h
  have HPL := Lib.hid hpl
  clear h hpl v3 v4 hv
  go_enter Try.func18, Try.ntmps18
  have hlit1 : OwnB ((w.alloc (.cells #[.string s, .slice A ss.length c] 24)).alloc (.cells #[.int .u8 (s.size : Int)] 5)) 5 (w.heap.size + 1) (some ⟨w.heap.size + 1, 0, none⟩) 1 [UInt8.ofNat s.size] := by
    have := OwnB.lit (w := w.alloc (.cells #[.string s, .slice A ss.length c] 24)) (E := 5) (base := w.heap.size + 1) [UInt8.ofNat s.size] #[.int .u8 (s.size : Int)] (lit_one (by omega)) (by simp) (by simp [maxLen])
    rw [show (w.alloc (.cells #[.string s, .slice A ss.length c] 24)).heap.size = w.heap.size + 1 by simp] at this
    exact this
  have HLIT1 := Lib.hid hlit1
  have hdd := (Ext.alloc (w.alloc (.cells #[.string s, .slice A ss.length c] 24)) (.cells #[.int .u8 (s.size : Int)] 5)).get (new_of w (.cells #[.string s, .slice A ss.length c] 24))
  have HDD := Lib.hid hdd
  clear hlit1 hdd
  go_wp2_with (at_builtin; first
    | (refine wpList_append_str' _ rfl _ _ 28 9 rfl (w.heap.size + 1) 5 i0 Try.underlying28 Try.underlying9 hi0 hz0 hz1 hz2 (some ⟨w.heap.size + 1, 0, none⟩) 1 [UInt8.ofNat s.size] 1 rfl rfl HLIT1.out s rfl (by omega) (by simp) ?_
       intro A2 c2 w2 ho2 hg2
       have hx2 : Ext w w2 := grown_new ((Ext.alloc _ _).tr (Ext.alloc _ _)) hg2 (fun g hg => by simp [Value.ownBlock] at hg; omega)
       have hd2 := grown_get hg2 HDD.out (fun e => by simp [Value.ownBlock] at e)
       have c1 : w2.cell? ⟨w.heap.size, 1, none⟩ = some (.slice A ss.length c) := cells_of hd2 1
       have c1a : ∀ o, (w2.alloc o).cell? ⟨w.heap.size, 1, none⟩ = some (.slice A ss.length c) := fun o => by rw [World.cell?_alloc_some _ _ _ (by rw [c1]; rfl)]; exact c1
       have hfl : [UInt8.ofNat s.size] ++ bl s = fl (bl s) := by rw [fl, bl_len, nb1 _ (by omega)]
       rw [hfl] at ho2
       have HO2 := Lib.hid (ho2.ext (Ext.alloc w2 (.cells #[.int .u8 (ss.length : Int)] 5)))
       have HL2 := Lib.hid (RB.lit w2 [UInt8.ofNat ss.length] #[.int .u8 (ss.length : Int)] 5 (lit_one (by omega)))
       have hf1 : (fl (bl s)).length = 1 + s.size := by rw [fl_len, bl_len]; omega
       have HF1 := Lib.hid hf1
       have HD2 := Lib.hid (((Ext.alloc w2 (.cells #[.int .u8 (ss.length : Int)] 5))).get hd2)
       have hszx := hx2.size
       have HX2 := Lib.hid hx2
       have hszy := lt_of_some hd2
       clear ho2 hg2 hx2 hd2 hfl hf1)
    | (refine wpList_append_bytes _ rfl _ _ 28 rfl (w.heap.size + 1) 5 i0 Try.underlying28 hi0 hz0 hz1 hz2 A2 c2 (fl (bl s)) (by rw [HF1.out]; rfl) HO2.out _ (some ⟨w2.heap.size, 0, none⟩) 1 [UInt8.ofNat ss.length] rfl HL2.out (by rw [HF1.out]; simp; omega) (by simp; omega) ?_
       intro A3 c3 w3 ho3 hg3 hb3
       have hx3 : Ext w w3 := grown_new (HX2.out.tr (Ext.alloc _ _)) hg3 (fun g hg => by have := HO2.out.ge g hg; omega)
       have hd3 := grown_get hg3 HD2.out (fun e => by have := HO2.out.ge _ e; omega)
       have HD3 := Lib.hid hd3
       clear hd3))
  have hn1 : (fl (bl s) ++ [UInt8.ofNat ss.length]).length = 2 + s.size := by rw [List.length_append, HF1.out]; simp; omega
  have hacc0 : fl (bl s) ++ [UInt8.ofNat ss.length] = fl (bl s) ++ nb 1 ss.length ++ ((bls ss).take 0).flatMap fl := by rw [nb1 _ (by omega)]; simp
  rw [HF1.out]
  rw [hacc0] at ho3 hn1
  go_loopw [3, 4] (fun v i wr => ∃ (k n : Nat) (C : Option Addr) (e : Nat), k ≤ ss.length ∧ i = .int .i64 k ∧ v = .slice C n e ∧ (fl (bl s) ++ nb 1 ss.length ++ ((bls ss).take k).flatMap fl).length = n ∧ n ≤ 102 + 101 * k ∧ OwnB wr 5 (w.heap.size + 1) C e (fl (bl s) ++ nb 1 ss.length ++ ((bls ss).take k).flatMap fl) ∧ Ext w wr ∧
    wr.heap[w.heap.size]? = some (.cells #[.string s, .slice A ss.length c] 24 (0, 0))) (fun _ i _ => ss.length - (intOf i).toNat)
  case atStart => exact ⟨0, 2 + s.size, A3, c3, Nat.zero_le _, rfl, congrArg (fun n => Value.slice A3 n c3) (by omega), hn1, by omega, ho3, hx3, HD3.out⟩
  case round =>
    obtain ⟨k, n, C, e, hk, rfl, rfl, hn, hnb, hor, hx, hdr⟩ := hrel
    have c1 : wr.cell? ⟨w.heap.size, 1, none⟩ = some (.slice A ss.length c) := cells_of hdr 1
    have hszr := hx.size
    have hlr := lt_of_some hdr
    by_cases hlt : k < ss.length
    · obtain ⟨gp, op, rfl, hcp0⟩ := H.out.cell hlt
      have hpk := HPL.out k hlt
      have hst : fl (bl s) ++ nb 1 ss.length ++ ((bls ss).take (k + 1)).flatMap fl = fl (bl s) ++ nb 1 ss.length ++ ((bls ss).take k).flatMap fl ++ [UInt8.ofNat (ss[k]).size] ++ bl ss[k] := by
        rw [List.take_succ_eq_append_getElem (by rw [bls_len]; exact hlt), List.flatMap_append, bls_get hlt]
        simp only [List.flatMap_cons, List.flatMap_nil, List.append_nil]
        have e1 : fl (bl ss[k]) = [UInt8.ofNat (ss[k]).size] ++ bl ss[k] := by rw [fl, bl_len, nb1 _ (by omega)]
        rw [e1]
        simp only [List.append_assoc]
      obtain ⟨p, hp⟩ : ∃ p, p = ss[k] := ⟨_, rfl⟩
      rw [← hp] at hcp0 hpk hst
      have hcp := ext_cell hx hcp0
      obtain ⟨E0, hE0⟩ : ∃ E0, E0 = fl (bl s) ++ nb 1 ss.length ++ ((bls ss).take k).flatMap fl := ⟨_, rfl⟩
      rw [← hE0] at hn hor hst
      have hpc := bl_len p
      have HOR := Lib.hid (hor.ext ((Ext.alloc wr (.cells #[.int .u8 (IntKind.u8.wrap (p.size : Int))] 5)).tr (Ext.drew _)))
      have HLT := Lib.hid ((RB.lit wr [UInt8.ofNat p.size] #[.int .u8 (IntKind.u8.wrap (p.size : Int))] 5 (lit_wrap (by omega))).ext (Ext.drew _))
      have HDR := Lib.hid (((Ext.alloc wr (.cells #[.int .u8 (IntKind.u8.wrap (p.size : Int))] 5)).tr (Ext.drew _)).get hdr)
      have HXR := Lib.hid (hx.tr ((Ext.alloc wr (.cells #[.int .u8 (IntKind.u8.wrap (p.size : Int))] 5)).tr (Ext.drew _)))
      have HCP0 := Lib.hid hcp0
      have HST := Lib.hid hst
      have hn2 : (E0 ++ [UInt8.ofNat p.size]).length = n + 1 := by rw [List.length_append, hn]; rfl
      have hbase : w.heap.size + 1 ≤ (wr.alloc (.cells #[.int .u8 (IntKind.u8.wrap (p.size : Int))] 5)).drew.heap.size := by show w.heap.size + 1 ≤ (wr.alloc (.cells #[.int .u8 (IntKind.u8.wrap (p.size : Int))] 5)).heap.size; simp; omega
      have HBA := Lib.hid hbase
      clear hp hE0 hor hx hdr hst hcp0 hbase
      go_wp2_with fail
      go_region_held3 (fun W => W.cell? ⟨w.heap.size, 1, none⟩ = some (.slice (some ⟨gp, op, none⟩) ss.length c) ∧ W.cell? ⟨gp, op + k, none⟩ = some (.string p)) (first | exact ⟨c7, p7⟩ | exact ⟨c6, p6⟩ | go_keep)
        (first
          | (refine step_append_bytes _ (by rfl) _ _ _ (by rfl) (w.heap.size + 1) 5 i0 Try.underlying28 hi0 hz0 hz1 hz2 C e E0 (by rw [hn]; rfl) HOR.out _ (some ⟨wr.heap.size, 0, none⟩) 1 1 [UInt8.ofNat p.size] (by rfl) (by rfl) HLT.out (by rw [hn]; omega) HBA.out ?_
             intro C2 e2 w6 ho6 hg6 hb6
             rw [hn2]
             have x6 : Ext w w6 := grown_new HXR.out hg6 (fun g hg => by have := HOR.out.ge g hg; omega)
             have d6 := grown_get hg6 HDR.out (fun e => by have := HOR.out.ge _ e; omega)
             have c6 : w6.cell? ⟨w.heap.size, 1, none⟩ = some (.slice (some ⟨gp, op, none⟩) ss.length c) := cells_of d6 1
             have p6 : w6.cell? ⟨gp, op + k, none⟩ = some (.string p) := ext_cell x6 HCP0.out
             have l6 := lt_of_some d6
             have X6 := Lib.hid x6
             have D6 := Lib.hid d6
             have HO6 := Lib.hid ho6
             clear x6 d6 ho6 hg6 hb6)
          | (refine step_append_str' _ (by rfl) _ _ _ _ (by rfl) (w.heap.size + 1) 5 i0 Try.underlying28 Try.underlying9 hi0 hz0 hz1 hz2 C2 e2 (E0 ++ [UInt8.ofNat p.size]) (n + 1) (by rfl) hn2 HO6.out p (by rfl) (by omega) (by omega) ?_
             intro C3 e3 w7 ho7 hg7
             have hge7 : ∀ q, (Value.slice C2 (n + 1) e2).ownBlock = some q → w.heap.size + 1 ≤ q := by have := HO6.out.ge; rw [hn2] at this; exact this
             have x7 : Ext w w7 := grown_new X6.out hg7 (fun g hg => by have := hge7 g hg; omega)
             have d7 := grown_get hg7 D6.out (fun e => by have := hge7 _ e; omega)
             have c7 : w7.cell? ⟨w.heap.size, 1, none⟩ = some (.slice (some ⟨gp, op, none⟩) ss.length c) := cells_of d7 1
             have p7 : w7.cell? ⟨gp, op + k, none⟩ = some (.string p) := ext_cell x7 HCP0.out
             have X7 := Lib.hid x7
             have D7 := Lib.hid d7
             have HO7 := Lib.hid ho7
             clear x7 d7 ho7 hg7 hge7))
      all_goals
        go_wp2_with fail
        go_roundw
        case rel => exact ⟨k + 1, n + 1 + p.size, C3, e3, by omega, by go_num, rfl, by rw [HST.out, List.length_append, hn2, bl_len], by omega, by rw [HST.out]; exact HO7.out, X7.out, D7.out⟩
        case measure => simp [intOf]; omega
    · have hall : fl (bl s) ++ nb 1 ss.length ++ ((bls ss).take k).flatMap fl = nbs (bl s) (bls ss) := by
        rw [List.take_of_length_le (by rw [bls_len]; omega), nbs, bls_len]
      rw [hall] at hn hor
      have HO := Lib.hid (hor.less (Nat.le_succ _))
      have HN := Lib.hid hn
      have HX := Lib.hid hx
      clear hall hor hn hx
      go_wp2_with fail
      go_ret
      exact ⟨C, e, by rw [HN.out]; rfl, HO.out, HX.out⟩
end Go.Proofs.Ytgbdckiojjmncaa
