/-
  MacKeys.
-/
import Derived.Test.YtdbmkkjpdhnllaaDoorMacV
import Derived.Test.YtdbmkkjpdhnllaaDoorBytC
namespace Go.Proofs.YtdbmkkjpdhnllaaDoor
open Go.RowKit
set_option linter.unusedVariables false
set_option linter.unusedSimpArgs false

theorem run_neq_tab {P : Program} {t e : TypeId} {n : Nat} {k : IntKind} (hu : P.underlying t = some (.array n e)) (he : P.underlying e = some (.int k)) (hs : (P.info? e).map (·.size) = some 1) (hc : P.cellsOf e = 1) (f f' : Nat → Nat) (hf : ∀ i, i < n → f i = f' i) (w : World) :
    (binOp .neq t (.agg (tabV k n f)) (.agg (tabV k n f'))).run P w = .ok (.bool false) w := by
  cases hq : P.info? e with
  | none => simp [hq] at hs
  | some ie =>
    rw [run_neq_struct, show (10000 : Nat) = 9999 + 1 from rfl, run_equalIn_array w 9999 _ _ hu hq, hc, show (9999 : Nat) = 9998 + 1 from rfl, run_eqItems_tab he f f' 9998 w hf _ (fun i hi => List.mem_range.1 hi)]
    rfl
theorem wp_neq_tab {P : Program} {o : Oper} {a : Act} {w : World} {K : Act → World → Prop} {Q : Exit → Act → World → Prop} (t yt : TypeId) (x y : Operand) (ho : o.op = .binOp .neq t x y yt) (k : IntKind) (n : Nat) (f f' : Nat → Nat) (hx : a.eval x = .agg (tabV k n f)) (hy : a.eval y = .agg (tabV k n f'))
    (e : TypeId) (hu : P.underlying t = some (.array n e)) (he : P.underlying e = some (.int k)) (hs : (P.info? e).map (·.size) = some 1) (hc : P.cellsOf e = 1) (hm : P.eqGuardType P.depth t = false) (hf : ∀ i, i < n → f i = f' i)
    (h : K (a.put o.dst (.bool false)) w) : o.wp P a w K Q := by
  unfold Oper.wp execOp
  simp only [ho, hx, hy, Sem.run_bind, run_eqGuard_agg w .neq t x y _ _ hm, Result.andThen_ok, run_neq_tab hu he hs hc f f' hf w, Sem.run_pure]
  exact h
theorem wp_load_arr {P : Program} {o : Oper} {a : Act} {w : World} {K : Act → World → Prop} {Q : Exit → Act → World → Prop} (ty : TypeId) (x : Operand) (ho : o.op = .load ty x) (g : Nat) (hx : a.eval x = .pointer (some ⟨g, 0, none⟩)) (t : TypeId) (k : IntKind) (n : Nat) (f : Nat → Nat) (e : TypeId)
    (hg : Arr w g t k n f) (hu : P.underlying ty = some (.array n e)) (hz : (P.info? ty).map (·.size) = some n) (h : K (a.put o.dst (.agg (tabV k n f))) w) : o.wp P a w K Q := by
  have hl := run_loadVar_mid (P := P) w g 0 ty (tabV k n f).toList _ (rangeAt_arr hg) hu rfl (by rw [Array.length_toList, tabV_size]; exact hz)
  rw [Array.toArray_toList] at hl
  unfold Oper.wp execOp
  simp only [ho, hx, Instr.loadAt, Instr.sureAddr, Sem.run_bind, Sem.run_pure, Result.andThen_ok, hl]
  exact h
theorem step_append_guard {P : Program} (w : World) {ops : Array Oper} {o : Oper} {a : Act} {K : Act → World → Prop} {Q : Exit → Act → World → Prop} {G : Prop} (hw : Region.wanted o (yielded ops a.tmps) = true) (s x : Operand) (t : TypeId)
    (ho : o.op = .call { callee := .builtin .append, args := #[s, x], argTypes := #[t, t] })
    (base : Nat) (E : TypeId) (i : TypeInfo) (ht : P.underlying t = some (.slice E)) (hi : P.info? E = some i) (hz : i.zero = some (.int .u8 0)) (hsz : i.size = 1) (hy : i.bytes = 1)
    (A : Option Addr) (c : Nat) (l : List UInt8) (n : Nat) (hs : a.eval s = .slice A n c) (hn : l.length = n) (hown : OwnB w E base A c l) (S : Nat → TypeId → Prop) (B : Option Addr) (k d : Nat) (m : List UInt8) (hx : a.eval x = .slice B k d) (hk : m.length = k) (hr : RB w S B m)
    (hlen : n + k ≤ 140737488355328) (hbase : base ≤ w.heap.size)
    (h : ∀ A' c' w', OwnB w' E base A' c' (l ++ m) → w.grownBy w' (Value.slice A n c).ownBlock → K (a.put o.dst (.slice A' (n + k) c')) w') :
    if Region.wanted o (yielded ops a.tmps) = true then Oper.wp P o a w K Q else G := by
  subst hk hn
  obtain ⟨A', c', w', hrun, h2, h3, h4⟩ := run_append_bytes (P := P) w base t o.type E i ht hi hz hsz hy A c l hown S B d m hr hlen hbase
  rw [if_pos hw]
  unfold Oper.wp execOp
  simp only [ho, resolve, invoke, builtin, Sem.run_bind, Sem.run_pure, Result.andThen_ok, List.map_toArray, List.map_cons, List.map_nil, hs, hx, hrun, List.length_append]
  exact h A' c' w' h2 h3
theorem RBC.own {w w' : World} {base c : Nat} {A B : Option Addr} {l : List UInt8} {ls : List (List UInt8)} (h : RBC w (fun _ t => t = 22) (fun g _ => g < base) B ls) (ho : OwnB w 5 base A c l) (hg : w.grownBy w' (Value.slice A l.length c).ownBlock) : RBC w' (fun _ t => t = 22) (fun g _ => g < base) B ls := by
  refine h.keep fun g o hh ⟨cs, t, fr, e, hs⟩ => grown_get hg hh ?_
  subst e
  rcases hs with hs | hs
  · exact ho.notAt hh (by rw [hs]; decide)
  · intro e
    have := ho.ge g e
    omega
theorem lit_at (w : World) (l : List UInt8) (cs : Array Value) (t : TypeId) (h : cs.toList = l.map u8) : RB (w.alloc (.cells cs t)) (fun g _ => g = w.heap.size) (some ⟨w.heap.size, 0, none⟩) l := by
  intro _
  refine ⟨_, 0, _, _, _, rfl, new_of _ _, rfl, fun j b hj => ?_⟩
  rw [Nat.zero_add, ← Array.getElem?_toList, h, List.getElem?_map, hj]
  rfl
theorem rbc_lit1 (w : World) {T : Nat → TypeId → Prop} {A : Option Addr} {l : List UInt8} {c : Nat} (t : TypeId) (hr : RB w T A l) (hc : l.length ≤ c) (hm : c ≤ 9223372036854775807) :
    RBC (w.alloc (.cells #[.slice A l.length c] t)) (fun _ t' => t' = t) T (some ⟨w.heap.size, 0, none⟩) [l] := by
  intro _
  refine ⟨_, 0, _, _, _, rfl, new_of _ _, rfl, fun j m hj => ?_⟩
  rcases j with _ | j
  · simp at hj
    subst hj
    exact ⟨A, c, rfl, hr.ext (Ext.alloc _ _), hc, hm⟩
  · simp at hj
theorem wpAnyH_take_un {P : Program} {md : Region.Mode} {ops : Array Oper} {Q : Exit → Act → World → Prop} {S : World → Prop} {fuel : Nat} {listed : Array Bool} {a : Act} {w : World} (i : Nat) {oi : Oper} (hi : ops[i]? = some oi)
    (hs : Region.noSelect ops = true) (hf : Region.free md ops listed i = true) (hr : (Region.ready md ops listed).contains i = true) (hQ : ∀ c a v w, Q (.panic c) (a.put oi.dst v) w → Q (.panic c) a w)
    (hw : Region.wanted oi (yielded ops a.tmps) = false) (hSw : S w)
    (h : wpAnyH P md ops Q S fuel (listed.setIfInBounds i true) (a.put oi.dst undef) w) : wpAnyH P md ops Q S (fuel + 1) listed a w :=
  wpAnyH_take (v := undef) hi hs hf hr (fun c a w => hQ c a _ w) (.inr ⟨hw, rfl⟩) hSw h
def PK (w : World) (e : Exit) (a : Act) (W : World) : Prop := e = .normal ∧ a.tmps.getD 6 undef = .bool true ∧ a.defers = [] ∧ Ext w W
theorem PK.calm {w : World} {c : _} {a a' : Act} {W : World} (h : PK w (.panic c) a W) : PK w (.panic c) a' W := by
  cases h.1

/-! ## the walk -/
set_option maxRecDepth 100000 in
set_option maxHeartbeats 8000000 in
theorem keys_main (x m : Nat) (hx : x < 18446744073709551616) (hm255 : m ≤ 255) (B : Option Addr) (cb : Nat) (b : List UInt8) (w : World) (hb : RB w (fun g _ => g < w.heap.size) B b) (hb1 : b.length ≤ cb) (hb2 : cb ≤ 9223372036854775807) (hbl : b.length ≤ 300) (ht : Tab w) :
    Calls Tryd.prog 7 #[.int .u64 x, .int .u8 m, .slice B b.length cb] w fun e w' => e = .returned (.bool true) ∧ Ext w w' := by
  obtain ⟨i0, hi0, hz0, hz1, hz2⟩ := info_parts info_u8
  have HB := Lib.hid hb
  have HB1 := Lib.hid hb1
  have HT := Lib.hid ht
  have HX := Lib.hid hx
  have t1 : decide ((300 : Int) < (b.length : Int)) = false := decide_eq_false (by omega)
  obtain ⟨n, hn⟩ : ∃ n, n = 40 + m % 50 := ⟨_, rfl⟩
  have hw1 : Value.int .i64 (wrap64 (m : Int)) = Value.int .i64 (m : Int) := by rw [IntWalk.wrap64_in _ (by omega)]
  have hn0 : (m : Int).tmod 50 = (m : Int) % 50 := Int.tmod_eq_emod_of_nonneg (Int.natCast_nonneg m)
  have hn1 : (40 : Int) + (m : Int) % 50 = (n : Int) := by clear hn0; omega
  have hn2 : Value.int .i64 (IntKind.i64.wrap (40 + (m : Int).tmod 50)) = Value.int .i64 (n : Int) := by rw [hn0, hn1, IntWalk.i64_in _ (by omega)]
  have hn3 : n ≤ 89 := by clear hn0; omega
  have HN := Lib.hid hn1
  clear hb hb1 ht hx hn0 hn1 hn
  go_enter Tryd.func7, Tryd.ntmps7
  go_wp2_with fail
  refine (awake_c _ HT.out).mono ?_
  rintro e w1 ⟨rfl, hx1⟩
  have HX1 := Lib.hid hx1
  clear hx1
  go_wp2_with fail
  have e40 : (40 : Int) + (m : Int) % 50 = (n : Int) := HN.out
  rw [e40]
  have hsp := spread_c x n HX.out (by omega) w1
  obtain ⟨key, hkey⟩ : ∃ key, key = spr x n := ⟨_, rfl⟩
  have hkl : key.length = n := by rw [hkey, spr_len]
  rw [← hkey] at hsp
  have HSP := Lib.hid hsp
  have HKL := Lib.hid hkl
  clear e40 hsp hkey hkl hw1 hn2
  refine HSP.out.mono ?_
  rintro e w2 ⟨A, c, rfl, ho2, hx2⟩
  have hole := ho2.le
  rw [HKL.out] at hole
  have HO := Lib.hid ho2
  have HX2 := Lib.hid (HX1.out.tr hx2)
  have HOL := Lib.hid hole
  clear ho2 hx2 hole
  have hrm := rmac_c A c key _ B cb b _ w2 HO.out.rb (by rw [HKL.out]; omega) (HB.out.ext HX2.out) (by omega)
  rw [HKL.out] at hrm
  obtain ⟨C, hC⟩ : ∃ C, C = hm key b := ⟨_, rfl⟩
  rw [← hC] at hrm
  have HRM := Lib.hid hrm
  have HC := Lib.hid hC
  clear hrm hC
  go_wp2_with fail
  refine HRM.out.mono ?_
  rintro e w3 ⟨rfl, hx3⟩
  have HX3 := Lib.hid (HX2.out.tr hx3)
  have HK3 := Lib.hid (HO.out.ext hx3)
  clear hx3 HRM
  go_wp2_with (refine wpList_store_arr rfl 26 (.tmp 8) (.tmp 25) rfl w3.heap.size .u8 32 C rfl rfl 26 _ (new_of _ _) size_dig rfl ?_
               intro w5 hA5 hG5
               have hx5 : Ext w3 w5 := grown_new (Ext.alloc _ _) hG5 (fun g hg => by simp at hg; omega)
               have HX5 := Lib.hid (HX3.out.tr hx5)
               have HK5 := Lib.hid (HK3.out.ext hx5).rb.inside
               have HA5 := Lib.hid hA5
               clear hA5 hG5 hx5)
  obtain ⟨gw, hgw⟩ : ∃ g, g = w3.heap.size := ⟨_, rfl⟩
  rw [← hgw] at HA5 ⊢
  clear hgw
  have HB5 : Hid (RB w5 (fun g _ => g < w5.heap.size) B b) := Lib.hid ((HB.out.ext HX5.out).more (fun g t h => Nat.lt_of_lt_of_le h HX5.out.size))
  have HSUM : Hid (∀ W g, Ext w5 W → RBC W (fun _ t => t = 22) (fun g _ => g < w5.heap.size) (some ⟨g, 0, none⟩) [b] → Calls Tryd.prog 10 #[.slice A n c, .slice (some ⟨g, 0, none⟩) 1 1] W fun e w' => e = .returned (.agg (tabV .u8 32 C)) ∧ Ext W w') := Lib.hid (fun W g hx hr => by
    have h := macSum_c A c key _ (some ⟨g, 0, none⟩) 1 [b] _ _ W (HT.out.ext (HX5.out.tr hx)) (HK5.out.ext hx) (by rw [HKL.out]; omega) (by rw [HKL.out]; exact HOL.out.1) (by have := HOL.out.2; unfold maxLen at this; omega) hr (by rw [fla_one]; omega) (by simp)
    rw [HKL.out, fla_one, ← HC.out] at h
    exact h)
  refine wp_region_held_drew (S := fun V => Arr V gw 26 .u8 32 C ∧ Ext w5 V) (by kernel_rfl) ⟨HA5.out.ext (Ext.drew _), Ext.drew _⟩ (fun hHeld => ?_)
  refine wpAnyH_take_move 0 rfl (by kernel_rfl) (by kernel_rfl) (by kernel_rfl) (fun _ _ _ _ h => h) (by kernel_rfl) (.tmp 7) rfl (.slice A n c) rfl hHeld ?_
  refine wpAnyH_take_move 1 rfl (by kernel_rfl) (by kernel_rfl) (by kernel_rfl) (fun _ _ _ _ h => h) (by kernel_rfl) (.tmp 2) rfl (.slice B b.length cb) rfl hHeld ?_
  refine wpAnyH_take_arr 4 rfl (by kernel_rfl) (by kernel_rfl) (by kernel_rfl) (fun _ _ _ _ h => h) (by kernel_rfl) 26 (.tmp 8) rfl gw 0 rfl .u8 32 C _ (fun _ hw => rangeAt_arr hw.1) Tryd.underlying26 size_dig hHeld ?_
  simp only [Act.put, List.setIfInBounds_toArray, List.set_cons_zero, List.set_cons_succ]
  refine wpAnyH_ready (rs := [2]) (by kernel_rfl) (by simp) ?_
  refine AllReadyH.cons rfl (fun K hK => ?_) AllReadyH.nil
  go_simp
  have hrc := rbc_lit1 w5.drew 22 (HB5.out.ext (Ext.drew _)) HB1.out hb2
  have hxd : Ext w5 (w5.drew.alloc (.cells #[.slice B b.length cb] 22)) := (Ext.drew _).tr (Ext.alloc _ _)
  refine hK.out _ _ ⟨HA5.out.ext hxd, hxd⟩ (fun _ => ?_)
  clear hK K
  try simp only [Act.put, List.setIfInBounds_toArray, List.set_cons_zero, List.set_cons_succ]
  refine wpAnyH_ready (rs := [3]) (by kernel_rfl) (by simp) ?_
  refine AllReadyH.cons rfl (fun K hK => ?_) AllReadyH.nil
  go_simp
  refine (HSUM.out _ _ hxd hrc).mono ?_
  rintro e w6 ⟨rfl, hx6⟩
  have hx6' := hxd.tr hx6
  refine hK.out _ _ ⟨HA5.out.ext hx6', hx6'⟩ (fun hHeld => ?_)
  clear hK K
  try simp only [Act.put, List.setIfInBounds_toArray, List.set_cons_zero, List.set_cons_succ]
  have FA0 := hHeld.1
  have FE0 := hHeld.2
  clear hrc hxd hx6 hx6' hHeld
  refine wpAnyH_ready (rs := [5]) (by kernel_rfl) (by simp) ?_
  refine AllReadyH.cons rfl (fun K hK => ?_) AllReadyH.nil
  rw [if_pos (by kernel_rfl)]
  refine wp_neq_tab 26 26 (.tmp 29) (.tmp 30) rfl .u8 32 C C rfl rfl 5 Tryd.underlying26 Tryd.underlying5 size_u8 cells_u8 noGuard_dig (fun _ _ => rfl) ?_
  refine hK.out _ _ ⟨FA0, FE0⟩ (fun _ => ?_)
  clear hK K
  simp only [List.getElem_toArray, List.getElem_cons_succ, List.getElem_cons_zero, Act.put, List.setIfInBounds_toArray, List.set_cons_zero, List.set_cons_succ]
  refine wpAnyH_done (by kernel_rfl) ?_ _
  have HFA := Lib.hid FA0
  have HFE := Lib.hid FE0
  clear FA0 FE0 HSUM
  by_cases h63 : 63 < n
  · have t3 : decide ((63 : Int) < (n : Int)) = true := decide_eq_true (by omega)
    go_wp2_with fail
    refine Code.wp_mono (P := Tryd.prog) (Q := PK w) ?_ ?_
    · rintro e ⟨tmps, defers⟩ W ⟨rfl, h0, hd, hx⟩
      dsimp only at h0 hd
      subst hd
      go_wp2_with fail
      go_ret
      exact ⟨by rw [← h0], hx⟩
    have FE := HFE.out.tr (Ext.drew w6)
    refine wp_region_held_drew (S := fun V => Ext w5 V) (by kernel_rfl) FE (fun hHeld => ?_)
    refine wpAnyH_take_move 0 rfl (by kernel_rfl) (by kernel_rfl) (by kernel_rfl) (fun _ _ _ _ h => PK.calm h) (by kernel_rfl) (.tmp 7) rfl (.slice A n c) rfl FE ?_
    try simp only [Act.put, List.setIfInBounds_toArray, List.set_cons_zero, List.set_cons_succ]
    refine wpAnyH_ready (rs := [1]) (by kernel_rfl) (by simp) ?_
    refine AllReadyH.cons rfl (fun K hK => ?_) AllReadyH.nil
    go_simp
    refine hK.out _ _ FE (fun _ => ?_)
    clear hK K
    try simp only [Act.put, List.setIfInBounds_toArray, List.set_cons_zero, List.set_cons_succ]
    refine wpAnyH_ready (rs := [2]) (by kernel_rfl) (by simp) ?_
    refine AllReadyH.cons rfl (fun K hK => ?_) AllReadyH.nil
    go_simp
    refine hK.out _ _ FE (fun _ => ?_)
    clear hK K
    try simp only [Act.put, List.setIfInBounds_toArray, List.set_cons_zero, List.set_cons_succ]
    refine wpAnyH_ready (rs := [3]) (by kernel_rfl) (by simp) ?_
    refine AllReadyH.cons rfl (fun K hK => ?_) AllReadyH.nil
    go_simp
    refine hK.out _ _ FE (fun _ => ?_)
    clear hK K
    try simp only [Act.put, List.setIfInBounds_toArray, List.set_cons_zero, List.set_cons_succ]
    refine wpAnyH_take_un 4 rfl (by kernel_rfl) (by kernel_rfl) (by kernel_rfl) (fun _ _ _ _ h => PK.calm h) (by kernel_rfl) FE ?_
    try simp only [Act.put, List.setIfInBounds_toArray, List.set_cons_zero, List.set_cons_succ]
    refine wpAnyH_take_un 5 rfl (by kernel_rfl) (by kernel_rfl) (by kernel_rfl) (fun _ _ _ _ h => PK.calm h) (by kernel_rfl) FE ?_
    try simp only [Act.put, List.setIfInBounds_toArray, List.set_cons_zero, List.set_cons_succ]
    refine wpAnyH_take_un 6 rfl (by kernel_rfl) (by kernel_rfl) (by kernel_rfl) (fun _ _ _ _ h => PK.calm h) (by kernel_rfl) FE ?_
    try simp only [Act.put, List.setIfInBounds_toArray, List.set_cons_zero, List.set_cons_succ]
    refine wpAnyH_take_un 7 rfl (by kernel_rfl) (by kernel_rfl) (by kernel_rfl) (fun _ _ _ _ h => PK.calm h) (by kernel_rfl) FE ?_
    try simp only [Act.put, List.setIfInBounds_toArray, List.set_cons_zero, List.set_cons_succ]
    refine wpAnyH_take_un 8 rfl (by kernel_rfl) (by kernel_rfl) (by kernel_rfl) (fun _ _ _ _ h => PK.calm h) (by kernel_rfl) FE ?_
    try simp only [Act.put, List.setIfInBounds_toArray, List.set_cons_zero, List.set_cons_succ]
    refine wpAnyH_take_un 9 rfl (by kernel_rfl) (by kernel_rfl) (by kernel_rfl) (fun _ _ _ _ h => PK.calm h) (by kernel_rfl) FE ?_
    try simp only [Act.put, List.setIfInBounds_toArray, List.set_cons_zero, List.set_cons_succ]
    refine wpAnyH_take_un 10 rfl (by kernel_rfl) (by kernel_rfl) (by kernel_rfl) (fun _ _ _ _ h => PK.calm h) (by kernel_rfl) FE ?_
    try simp only [Act.put, List.setIfInBounds_toArray, List.set_cons_zero, List.set_cons_succ]
    refine wpAnyH_take_un 11 rfl (by kernel_rfl) (by kernel_rfl) (by kernel_rfl) (fun _ _ _ _ h => PK.calm h) (by kernel_rfl) FE ?_
    try simp only [Act.put, List.setIfInBounds_toArray, List.set_cons_zero, List.set_cons_succ]
    refine wpAnyH_take_un 12 rfl (by kernel_rfl) (by kernel_rfl) (by kernel_rfl) (fun _ _ _ _ h => PK.calm h) (by kernel_rfl) FE ?_
    try simp only [Act.put, List.setIfInBounds_toArray, List.set_cons_zero, List.set_cons_succ]
    refine wpAnyH_take_un 13 rfl (by kernel_rfl) (by kernel_rfl) (by kernel_rfl) (fun _ _ _ _ h => PK.calm h) (by kernel_rfl) FE ?_
    try simp only [Act.put, List.setIfInBounds_toArray, List.set_cons_zero, List.set_cons_succ]
    refine wpAnyH_ready (rs := [14]) (by kernel_rfl) (by simp) ?_
    refine AllReadyH.cons rfl (fun K hK => ?_) AllReadyH.nil
    go_simp
    refine hK.out _ _ FE (fun _ => ?_)
    clear hK K
    try simp only [Act.put, List.setIfInBounds_toArray, List.set_cons_zero, List.set_cons_succ]
    refine wpAnyH_ready (rs := [15]) (by kernel_rfl) (by simp) ?_
    refine AllReadyH.cons rfl (fun K hK => ?_) AllReadyH.nil
    go_simp
    refine hK.out _ _ FE (fun _ => ?_)
    clear hK K
    try simp only [Act.put, List.setIfInBounds_toArray, List.set_cons_zero, List.set_cons_succ]
    refine wpAnyH_done (by kernel_rfl) ?_ _
    exact ⟨rfl, rfl, rfl, HX5.out.tr FE⟩
  · have t3 : decide ((63 : Int) < (n : Int)) = false := decide_eq_false (by omega)
    have hkz : hm (key ++ [0]) b = C := by rw [hm_zero (by rw [HKL.out]; omega), HC.out]
    have HKZ := Lib.hid hkz
    clear hkz
    go_wp2_with fail
    refine Code.wp_mono (P := Tryd.prog) (Q := PK w) ?_ ?_
    · rintro e ⟨tmps, defers⟩ W ⟨rfl, h0, hd, hx⟩
      dsimp only at h0 hd
      subst hd
      go_wp2_with fail
      go_ret
      exact ⟨by rw [← h0], hx⟩
    obtain ⟨v0, hv0⟩ : ∃ x, x = w6.drew := ⟨_, rfl⟩
    have FE : Ext w5 v0 := by rw [hv0]; exact HFE.out.tr (Ext.drew w6)
    have FA : Arr v0 gw 26 .u8 32 C := HA5.out.ext FE
    refine wp_region_held_drew (S := fun V => Arr V gw 26 .u8 32 C) (by kernel_rfl) (HFA.out.ext (Ext.drew _)) (fun hHeld => ?_)
    rw [← hv0] at hHeld ⊢
    clear hv0
    refine wpAnyH_take_move 0 rfl (by kernel_rfl) (by kernel_rfl) (by kernel_rfl) (fun _ _ _ _ h => PK.calm h) (by kernel_rfl) (.tmp 7) rfl (.slice A n c) rfl FA ?_
    try simp only [Act.put, List.setIfInBounds_toArray, List.set_cons_zero, List.set_cons_succ]
    refine wpAnyH_ready (rs := [1]) (by kernel_rfl) (by simp) ?_
    refine AllReadyH.cons rfl (fun K hK => ?_) AllReadyH.nil
    go_simp
    refine hK.out _ _ FA (fun _ => ?_)
    clear hK K
    try simp only [Act.put, List.setIfInBounds_toArray, List.set_cons_zero, List.set_cons_succ]
    refine wpAnyH_ready (rs := [2]) (by kernel_rfl) (by simp) ?_
    refine AllReadyH.cons rfl (fun K hK => ?_) AllReadyH.nil
    go_simp
    refine hK.out _ _ FA (fun _ => ?_)
    clear hK K
    try simp only [Act.put, List.setIfInBounds_toArray, List.set_cons_zero, List.set_cons_succ]
    refine wpAnyH_ready (rs := [3]) (by kernel_rfl) (by simp) ?_
    refine AllReadyH.cons rfl (fun K hK => ?_) AllReadyH.nil
    go_simp
    refine hK.out _ _ FA (fun _ => ?_)
    clear hK K
    try simp only [Act.put, List.setIfInBounds_toArray, List.set_cons_zero, List.set_cons_succ]
    refine wpAnyH_take_move 5 rfl (by kernel_rfl) (by kernel_rfl) (by kernel_rfl) (fun _ _ _ _ h => PK.calm h) (by kernel_rfl) (.tmp 7) rfl (.slice A n c) rfl FA ?_
    refine wpAnyH_take_move 9 rfl (by kernel_rfl) (by kernel_rfl) (by kernel_rfl) (fun _ _ _ _ h => PK.calm h) (by kernel_rfl) (.tmp 2) rfl (.slice B b.length cb) rfl FA ?_
    refine wpAnyH_take_arr 12 rfl (by kernel_rfl) (by kernel_rfl) (by kernel_rfl) (fun _ _ _ _ h => PK.calm h) (by kernel_rfl) 26 (.tmp 8) rfl gw 0 rfl .u8 32 C _ (fun _ hw => rangeAt_arr hw) Tryd.underlying26 size_dig FA ?_
    try simp only [Act.put, List.setIfInBounds_toArray, List.set_cons_zero, List.set_cons_succ]
    clear hHeld
    refine wpAnyH_ready (rs := [4, 7, 10]) (by kernel_rfl) (by simp) ?_
    refine AllReadyH.cons rfl (fun K hK => ?_) (AllReadyH.cons rfl (fun K hK => ?_) (AllReadyH.cons rfl (fun K hK => ?_) AllReadyH.nil))
    · skip
      go_simp
      change K _ (World.alloc v0 (.cells #[] 5))
      have hE : Ext v0 (World.alloc v0 (.cells #[] 5)) := Ext.alloc _ _
      have N : OwnB (World.alloc v0 (.cells #[] 5)) 5 w5.heap.size (some ⟨v0.heap.size, 0, none⟩) 0 [] := OwnB.lit (w := v0) [] #[] rfl FE.size (by simp [maxLen])
      have hgv : v0.heap.size < (World.alloc v0 (.cells #[] 5)).heap.size := by simp
      obtain ⟨g4, hg0⟩ : ∃ g, g = v0.heap.size := ⟨_, rfl⟩
      rw [← hg0] at N hgv ⊢
      obtain ⟨v1, hv⟩ : ∃ x, x = World.alloc v0 (.cells #[] 5) := ⟨_, rfl⟩
      rw [← hv] at N hE hgv ⊢
      clear hv
      clear hg0 hgv
      (try replace F4 := F4.ext hE)
      (try replace F6 := F6.ext hE)
      (try replace F7 := F7.ext hE)
      (try replace F7lt := Nat.lt_of_lt_of_le F7lt hE.size)
      (try replace F8 := F8.ext hE)
      (try replace F10 := F10.ext hE)
      replace FA := FA.ext hE
      replace FE := FE.tr hE
      clear hE
      have F4 := N
      clear N
      refine hK.out _ _ FA (fun _ => ?_)
      clear hK K
      try simp only [Act.put, List.setIfInBounds_toArray, List.set_cons_zero, List.set_cons_succ]
      refine wpAnyH_ready (rs := [6, 7, 10]) (by kernel_rfl) (by simp) ?_
      refine AllReadyH.cons rfl (fun K hK => ?_) (AllReadyH.cons rfl (fun K hK => ?_) (AllReadyH.cons rfl (fun K hK => ?_) AllReadyH.nil))
      · skip
        refine step_append_guard _ (by kernel_rfl) (.tmp 36) (.tmp 37) 22 rfl w5.heap.size 5 i0 Tryd.underlying22 hi0 hz0 hz1 hz2 (some ⟨g4, 0, none⟩) 0 [] 0 rfl rfl F4 _ A n c key rfl HKL.out (HK5.out.ext FE) (by omega) FE.size ?_
        intro A6 c6 v2 F6 hG
        rw [List.nil_append] at F6
        rw [Nat.zero_add]
        replace FA : Arr v2 gw 26 .u8 32 C := grown_get hG FA (F4.notAt FA (by decide))
        replace FE := grown_new FE hG F4.ge
        clear F4 hG
        refine hK.out _ _ FA (fun _ => ?_)
        clear hK K
        try simp only [Act.put, List.setIfInBounds_toArray, List.set_cons_zero, List.set_cons_succ]
        refine wpAnyH_ready (rs := [7, 10]) (by kernel_rfl) (by simp) ?_
        refine AllReadyH.cons rfl (fun K hK => ?_) (AllReadyH.cons rfl (fun K hK => ?_) AllReadyH.nil)
        · skip
          go_simp
          change K _ (World.alloc v2 (.cells #[.int .u8 0] 5))
          have hE : Ext v2 (World.alloc v2 (.cells #[.int .u8 0] 5)) := Ext.alloc _ _
          have N : RB (World.alloc v2 (.cells #[.int .u8 0] 5)) (fun g _ => g = v2.heap.size) (some ⟨v2.heap.size, 0, none⟩) [0] := lit_at v2 [0] #[.int .u8 0] 5 rfl
          have hgv : v2.heap.size < (World.alloc v2 (.cells #[.int .u8 0] 5)).heap.size := by simp
          obtain ⟨g7, hg0⟩ : ∃ g, g = v2.heap.size := ⟨_, rfl⟩
          rw [← hg0] at N hgv ⊢
          obtain ⟨v3, hv⟩ : ∃ x, x = World.alloc v2 (.cells #[.int .u8 0] 5) := ⟨_, rfl⟩
          rw [← hv] at N hE hgv ⊢
          clear hv
          clear hg0
          (try replace F4 := F4.ext hE)
          (try replace F6 := F6.ext hE)
          (try replace F7 := F7.ext hE)
          (try replace F7lt := Nat.lt_of_lt_of_le F7lt hE.size)
          (try replace F8 := F8.ext hE)
          (try replace F10 := F10.ext hE)
          replace FA := FA.ext hE
          replace FE := FE.tr hE
          clear hE
          have F7 := N
          have F7lt := hgv
          clear N hgv
          refine hK.out _ _ FA (fun _ => ?_)
          clear hK K
          try simp only [Act.put, List.setIfInBounds_toArray, List.set_cons_zero, List.set_cons_succ]
          refine wpAnyH_ready (rs := [8, 10]) (by kernel_rfl) (by simp) ?_
          refine AllReadyH.cons rfl (fun K hK => ?_) (AllReadyH.cons rfl (fun K hK => ?_) AllReadyH.nil)
          · skip
            have hown6 := F6.ge
            have hnot6 := F6.notAt FA (by decide)
            rw [HKL.out] at hown6 hnot6
            refine step_append_guard _ (by kernel_rfl) (.tmp 38) (.tmp 39) 22 rfl w5.heap.size 5 i0 Tryd.underlying22 hi0 hz0 hz1 hz2 A6 c6 key n rfl HKL.out F6 _ (some ⟨g7, 0, none⟩) 1 1 [0] rfl rfl F7 (by omega) FE.size ?_
            intro A8 c8 v4 F8 hG
            replace FA : Arr v4 gw 26 .u8 32 C := grown_get hG FA hnot6
            replace FE := grown_new FE hG hown6
            clear F6 F7 F7lt hG hown6 hnot6
            refine hK.out _ _ FA (fun _ => ?_)
            clear hK K
            try simp only [Act.put, List.setIfInBounds_toArray, List.set_cons_zero, List.set_cons_succ]
            refine wpAnyH_ready (rs := [10]) (by kernel_rfl) (by simp) ?_
            refine AllReadyH.cons rfl (fun K hK => ?_) AllReadyH.nil
            go_simp
            change K _ (World.alloc v4 (.cells #[.slice B b.length cb] 22))
            have hE : Ext v4 (World.alloc v4 (.cells #[.slice B b.length cb] 22)) := Ext.alloc _ _
            have N : RBC (World.alloc v4 (.cells #[.slice B b.length cb] 22)) (fun _ t => t = 22) (fun g _ => g < w5.heap.size) (some ⟨v4.heap.size, 0, none⟩) [b] := rbc_lit1 v4 22 (HB5.out.ext FE) HB1.out hb2
            have hgv : v4.heap.size < (World.alloc v4 (.cells #[.slice B b.length cb] 22)).heap.size := by simp
            obtain ⟨g10, hg0⟩ : ∃ g, g = v4.heap.size := ⟨_, rfl⟩
            rw [← hg0] at N hgv ⊢
            obtain ⟨v5, hv⟩ : ∃ x, x = World.alloc v4 (.cells #[.slice B b.length cb] 22) := ⟨_, rfl⟩
            rw [← hv] at N hE hgv ⊢
            clear hv
            clear hg0 hgv
            (try replace F4 := F4.ext hE)
            (try replace F6 := F6.ext hE)
            (try replace F7 := F7.ext hE)
            (try replace F7lt := Nat.lt_of_lt_of_le F7lt hE.size)
            (try replace F8 := F8.ext hE)
            (try replace F10 := F10.ext hE)
            replace FA := FA.ext hE
            replace FE := FE.tr hE
            clear hE
            have F10 := N
            clear N
            refine hK.out _ _ FA (fun _ => ?_)
            clear hK K
            try simp only [Act.put, List.setIfInBounds_toArray, List.set_cons_zero, List.set_cons_succ]
            refine wpAnyH_ready (rs := [11]) (by kernel_rfl) (by simp) ?_
            refine AllReadyH.cons rfl (fun K hK => ?_) AllReadyH.nil
            go_simp
            have hs := macSum_c A8 c8 (key ++ [0]) _ (some ⟨g10, 0, none⟩) 1 [b] _ _ v5 (HT.out.ext (HX5.out.tr FE)) F8.rb (by rw [List.length_append, HKL.out]; simp; omega) F8.le.1 (by have := F8.le.2; unfold maxLen at this; omega) F10 (by rw [fla_one]; omega) (by simp)
            rw [fla_one, HKZ.out, List.length_append, HKL.out] at hs
            refine hs.mono ?_
            rintro e v6 ⟨rfl, hE⟩
            clear hs F8 F10
            replace FA := FA.ext hE
            replace FE := FE.tr hE
            clear hE
            refine hK.out _ _ FA (fun _ => ?_)
            clear hK K
            try simp only [Act.put, List.setIfInBounds_toArray, List.set_cons_zero, List.set_cons_succ]
            refine wpAnyH_ready (rs := [13]) (by kernel_rfl) (by simp) ?_
            refine AllReadyH.cons rfl (fun K hK => ?_) AllReadyH.nil
            refine step_eql_tab (by kernel_rfl) 26 26 (.tmp 43) (.tmp 44) rfl .u8 32 C C rfl rfl 5 Tryd.underlying26 Tryd.underlying5 size_u8 cells_u8 noGuard_dig (fun _ _ => rfl) ?_
            refine hK.out _ _ FA (fun _ => ?_)
            clear hK K
            try simp only [Act.put, List.setIfInBounds_toArray, List.set_cons_zero, List.set_cons_succ]
            refine wpAnyH_ready (rs := [14]) (by kernel_rfl) (by simp) ?_
            refine AllReadyH.cons rfl (fun K hK => ?_) AllReadyH.nil
            go_simp
            refine hK.out _ _ FA (fun _ => ?_)
            clear hK K
            try simp only [Act.put, List.setIfInBounds_toArray, List.set_cons_zero, List.set_cons_succ]
            refine wpAnyH_ready (rs := [15]) (by kernel_rfl) (by simp) ?_
            refine AllReadyH.cons rfl (fun K hK => ?_) AllReadyH.nil
            go_simp
            refine hK.out _ _ FA (fun _ => ?_)
            clear hK K
            try simp only [Act.put, List.setIfInBounds_toArray, List.set_cons_zero, List.set_cons_succ]
            refine wpAnyH_done (by kernel_rfl) ?_ _
            exact ⟨rfl, rfl, rfl, HX5.out.tr FE⟩
          · skip
            go_simp
            change K _ (World.alloc v3 (.cells #[.slice B b.length cb] 22))
            have hE : Ext v3 (World.alloc v3 (.cells #[.slice B b.length cb] 22)) := Ext.alloc _ _
            have N : RBC (World.alloc v3 (.cells #[.slice B b.length cb] 22)) (fun _ t => t = 22) (fun g _ => g < w5.heap.size) (some ⟨v3.heap.size, 0, none⟩) [b] := rbc_lit1 v3 22 (HB5.out.ext FE) HB1.out hb2
            have hgv : v3.heap.size < (World.alloc v3 (.cells #[.slice B b.length cb] 22)).heap.size := by simp
            obtain ⟨g10, hg0⟩ : ∃ g, g = v3.heap.size := ⟨_, rfl⟩
            rw [← hg0] at N hgv ⊢
            obtain ⟨v4, hv⟩ : ∃ x, x = World.alloc v3 (.cells #[.slice B b.length cb] 22) := ⟨_, rfl⟩
            rw [← hv] at N hE hgv ⊢
            clear hv
            clear hg0 hgv
            (try replace F4 := F4.ext hE)
            (try replace F6 := F6.ext hE)
            (try replace F7 := F7.ext hE)
            (try replace F7lt := Nat.lt_of_lt_of_le F7lt hE.size)
            (try replace F8 := F8.ext hE)
            (try replace F10 := F10.ext hE)
            replace FA := FA.ext hE
            replace FE := FE.tr hE
            clear hE
            have F10 := N
            clear N
            refine hK.out _ _ FA (fun _ => ?_)
            clear hK K
            try simp only [Act.put, List.setIfInBounds_toArray, List.set_cons_zero, List.set_cons_succ]
            refine wpAnyH_ready (rs := [8]) (by kernel_rfl) (by simp) ?_
            refine AllReadyH.cons rfl (fun K hK => ?_) AllReadyH.nil
            have hown6 := F6.ge
            have hnot6 := F6.notAt FA (by decide)
            rw [HKL.out] at hown6 hnot6
            refine step_append_guard _ (by kernel_rfl) (.tmp 38) (.tmp 39) 22 rfl w5.heap.size 5 i0 Tryd.underlying22 hi0 hz0 hz1 hz2 A6 c6 key n rfl HKL.out F6 _ (some ⟨g7, 0, none⟩) 1 1 [0] rfl rfl F7 (by omega) FE.size ?_
            intro A8 c8 v5 F8 hG
            replace F10 := F10.own F6 (by rw [HKL.out]; exact hG)
            replace FA : Arr v5 gw 26 .u8 32 C := grown_get hG FA hnot6
            replace FE := grown_new FE hG hown6
            clear F6 F7 F7lt hG hown6 hnot6
            refine hK.out _ _ FA (fun _ => ?_)
            clear hK K
            try simp only [Act.put, List.setIfInBounds_toArray, List.set_cons_zero, List.set_cons_succ]
            refine wpAnyH_ready (rs := [11]) (by kernel_rfl) (by simp) ?_
            refine AllReadyH.cons rfl (fun K hK => ?_) AllReadyH.nil
            go_simp
            have hs := macSum_c A8 c8 (key ++ [0]) _ (some ⟨g10, 0, none⟩) 1 [b] _ _ v5 (HT.out.ext (HX5.out.tr FE)) F8.rb (by rw [List.length_append, HKL.out]; simp; omega) F8.le.1 (by have := F8.le.2; unfold maxLen at this; omega) F10 (by rw [fla_one]; omega) (by simp)
            rw [fla_one, HKZ.out, List.length_append, HKL.out] at hs
            refine hs.mono ?_
            rintro e v6 ⟨rfl, hE⟩
            clear hs F8 F10
            replace FA := FA.ext hE
            replace FE := FE.tr hE
            clear hE
            refine hK.out _ _ FA (fun _ => ?_)
            clear hK K
            try simp only [Act.put, List.setIfInBounds_toArray, List.set_cons_zero, List.set_cons_succ]
            refine wpAnyH_ready (rs := [13]) (by kernel_rfl) (by simp) ?_
            refine AllReadyH.cons rfl (fun K hK => ?_) AllReadyH.nil
            refine step_eql_tab (by kernel_rfl) 26 26 (.tmp 43) (.tmp 44) rfl .u8 32 C C rfl rfl 5 Tryd.underlying26 Tryd.underlying5 size_u8 cells_u8 noGuard_dig (fun _ _ => rfl) ?_
            refine hK.out _ _ FA (fun _ => ?_)
            clear hK K
            try simp only [Act.put, List.setIfInBounds_toArray, List.set_cons_zero, List.set_cons_succ]
            refine wpAnyH_ready (rs := [14]) (by kernel_rfl) (by simp) ?_
            refine AllReadyH.cons rfl (fun K hK => ?_) AllReadyH.nil
            go_simp
            refine hK.out _ _ FA (fun _ => ?_)
            clear hK K
            try simp only [Act.put, List.setIfInBounds_toArray, List.set_cons_zero, List.set_cons_succ]
            refine wpAnyH_ready (rs := [15]) (by kernel_rfl) (by simp) ?_
            refine AllReadyH.cons rfl (fun K hK => ?_) AllReadyH.nil
            go_simp
            refine hK.out _ _ FA (fun _ => ?_)
            clear hK K
            try simp only [Act.put, List.setIfInBounds_toArray, List.set_cons_zero, List.set_cons_succ]
            refine wpAnyH_done (by kernel_rfl) ?_ _
            exact ⟨rfl, rfl, rfl, HX5.out.tr FE⟩
        · skip
          go_simp
          change K _ (World.alloc v2 (.cells #[.slice B b.length cb] 22))
          have hE : Ext v2 (World.alloc v2 (.cells #[.slice B b.length cb] 22)) := Ext.alloc _ _
          have N : RBC (World.alloc v2 (.cells #[.slice B b.length cb] 22)) (fun _ t => t = 22) (fun g _ => g < w5.heap.size) (some ⟨v2.heap.size, 0, none⟩) [b] := rbc_lit1 v2 22 (HB5.out.ext FE) HB1.out hb2
          have hgv : v2.heap.size < (World.alloc v2 (.cells #[.slice B b.length cb] 22)).heap.size := by simp
          obtain ⟨g10, hg0⟩ : ∃ g, g = v2.heap.size := ⟨_, rfl⟩
          rw [← hg0] at N hgv ⊢
          obtain ⟨v3, hv⟩ : ∃ x, x = World.alloc v2 (.cells #[.slice B b.length cb] 22) := ⟨_, rfl⟩
          rw [← hv] at N hE hgv ⊢
          clear hv
          clear hg0 hgv
          (try replace F4 := F4.ext hE)
          (try replace F6 := F6.ext hE)
          (try replace F7 := F7.ext hE)
          (try replace F7lt := Nat.lt_of_lt_of_le F7lt hE.size)
          (try replace F8 := F8.ext hE)
          (try replace F10 := F10.ext hE)
          replace FA := FA.ext hE
          replace FE := FE.tr hE
          clear hE
          have F10 := N
          clear N
          refine hK.out _ _ FA (fun _ => ?_)
          clear hK K
          try simp only [Act.put, List.setIfInBounds_toArray, List.set_cons_zero, List.set_cons_succ]
          refine wpAnyH_ready (rs := [7]) (by kernel_rfl) (by simp) ?_
          refine AllReadyH.cons rfl (fun K hK => ?_) AllReadyH.nil
          go_simp
          change K _ (World.alloc v3 (.cells #[.int .u8 0] 5))
          have hE : Ext v3 (World.alloc v3 (.cells #[.int .u8 0] 5)) := Ext.alloc _ _
          have N : RB (World.alloc v3 (.cells #[.int .u8 0] 5)) (fun g _ => g = v3.heap.size) (some ⟨v3.heap.size, 0, none⟩) [0] := lit_at v3 [0] #[.int .u8 0] 5 rfl
          have hgv : v3.heap.size < (World.alloc v3 (.cells #[.int .u8 0] 5)).heap.size := by simp
          obtain ⟨g7, hg0⟩ : ∃ g, g = v3.heap.size := ⟨_, rfl⟩
          rw [← hg0] at N hgv ⊢
          obtain ⟨v4, hv⟩ : ∃ x, x = World.alloc v3 (.cells #[.int .u8 0] 5) := ⟨_, rfl⟩
          rw [← hv] at N hE hgv ⊢
          clear hv
          clear hg0
          (try replace F4 := F4.ext hE)
          (try replace F6 := F6.ext hE)
          (try replace F7 := F7.ext hE)
          (try replace F7lt := Nat.lt_of_lt_of_le F7lt hE.size)
          (try replace F8 := F8.ext hE)
          (try replace F10 := F10.ext hE)
          replace FA := FA.ext hE
          replace FE := FE.tr hE
          clear hE
          have F7 := N
          have F7lt := hgv
          clear N hgv
          refine hK.out _ _ FA (fun _ => ?_)
          clear hK K
          try simp only [Act.put, List.setIfInBounds_toArray, List.set_cons_zero, List.set_cons_succ]
          refine wpAnyH_ready (rs := [8]) (by kernel_rfl) (by simp) ?_
          refine AllReadyH.cons rfl (fun K hK => ?_) AllReadyH.nil
          have hown6 := F6.ge
          have hnot6 := F6.notAt FA (by decide)
          rw [HKL.out] at hown6 hnot6
          refine step_append_guard _ (by kernel_rfl) (.tmp 38) (.tmp 39) 22 rfl w5.heap.size 5 i0 Tryd.underlying22 hi0 hz0 hz1 hz2 A6 c6 key n rfl HKL.out F6 _ (some ⟨g7, 0, none⟩) 1 1 [0] rfl rfl F7 (by omega) FE.size ?_
          intro A8 c8 v5 F8 hG
          replace F10 := F10.own F6 (by rw [HKL.out]; exact hG)
          replace FA : Arr v5 gw 26 .u8 32 C := grown_get hG FA hnot6
          replace FE := grown_new FE hG hown6
          clear F6 F7 F7lt hG hown6 hnot6
          refine hK.out _ _ FA (fun _ => ?_)
          clear hK K
          try simp only [Act.put, List.setIfInBounds_toArray, List.set_cons_zero, List.set_cons_succ]
          refine wpAnyH_ready (rs := [11]) (by kernel_rfl) (by simp) ?_
          refine AllReadyH.cons rfl (fun K hK => ?_) AllReadyH.nil
          go_simp
          have hs := macSum_c A8 c8 (key ++ [0]) _ (some ⟨g10, 0, none⟩) 1 [b] _ _ v5 (HT.out.ext (HX5.out.tr FE)) F8.rb (by rw [List.length_append, HKL.out]; simp; omega) F8.le.1 (by have := F8.le.2; unfold maxLen at this; omega) F10 (by rw [fla_one]; omega) (by simp)
          rw [fla_one, HKZ.out, List.length_append, HKL.out] at hs
          refine hs.mono ?_
          rintro e v6 ⟨rfl, hE⟩
          clear hs F8 F10
          replace FA := FA.ext hE
          replace FE := FE.tr hE
          clear hE
          refine hK.out _ _ FA (fun _ => ?_)
          clear hK K
          try simp only [Act.put, List.setIfInBounds_toArray, List.set_cons_zero, List.set_cons_succ]
          refine wpAnyH_ready (rs := [13]) (by kernel_rfl) (by simp) ?_
          refine AllReadyH.cons rfl (fun K hK => ?_) AllReadyH.nil
          refine step_eql_tab (by kernel_rfl) 26 26 (.tmp 43) (.tmp 44) rfl .u8 32 C C rfl rfl 5 Tryd.underlying26 Tryd.underlying5 size_u8 cells_u8 noGuard_dig (fun _ _ => rfl) ?_
          refine hK.out _ _ FA (fun _ => ?_)
          clear hK K
          try simp only [Act.put, List.setIfInBounds_toArray, List.set_cons_zero, List.set_cons_succ]
          refine wpAnyH_ready (rs := [14]) (by kernel_rfl) (by simp) ?_
          refine AllReadyH.cons rfl (fun K hK => ?_) AllReadyH.nil
          go_simp
          refine hK.out _ _ FA (fun _ => ?_)
          clear hK K
          try simp only [Act.put, List.setIfInBounds_toArray, List.set_cons_zero, List.set_cons_succ]
          refine wpAnyH_ready (rs := [15]) (by kernel_rfl) (by simp) ?_
          refine AllReadyH.cons rfl (fun K hK => ?_) AllReadyH.nil
          go_simp
          refine hK.out _ _ FA (fun _ => ?_)
          clear hK K
          try simp only [Act.put, List.setIfInBounds_toArray, List.set_cons_zero, List.set_cons_succ]
          refine wpAnyH_done (by kernel_rfl) ?_ _
          exact ⟨rfl, rfl, rfl, HX5.out.tr FE⟩
      · skip
        go_simp
        change K _ (World.alloc v1 (.cells #[.int .u8 0] 5))
        have hE : Ext v1 (World.alloc v1 (.cells #[.int .u8 0] 5)) := Ext.alloc _ _
        have N : RB (World.alloc v1 (.cells #[.int .u8 0] 5)) (fun g _ => g = v1.heap.size) (some ⟨v1.heap.size, 0, none⟩) [0] := lit_at v1 [0] #[.int .u8 0] 5 rfl
        have hgv : v1.heap.size < (World.alloc v1 (.cells #[.int .u8 0] 5)).heap.size := by simp
        obtain ⟨g7, hg0⟩ : ∃ g, g = v1.heap.size := ⟨_, rfl⟩
        rw [← hg0] at N hgv ⊢
        obtain ⟨v2, hv⟩ : ∃ x, x = World.alloc v1 (.cells #[.int .u8 0] 5) := ⟨_, rfl⟩
        rw [← hv] at N hE hgv ⊢
        clear hv
        have hne : g7 ≠ g4 := by have := F4.at_.2; omega
        clear hg0
        (try replace F4 := F4.ext hE)
        (try replace F6 := F6.ext hE)
        (try replace F7 := F7.ext hE)
        (try replace F7lt := Nat.lt_of_lt_of_le F7lt hE.size)
        (try replace F8 := F8.ext hE)
        (try replace F10 := F10.ext hE)
        replace FA := FA.ext hE
        replace FE := FE.tr hE
        clear hE
        have F7 := N
        have F7lt := hgv
        clear N hgv
        refine hK.out _ _ FA (fun _ => ?_)
        clear hK K
        try simp only [Act.put, List.setIfInBounds_toArray, List.set_cons_zero, List.set_cons_succ]
        refine wpAnyH_ready (rs := [6, 10]) (by kernel_rfl) (by simp) ?_
        refine AllReadyH.cons rfl (fun K hK => ?_) (AllReadyH.cons rfl (fun K hK => ?_) AllReadyH.nil)
        · skip
          refine step_append_guard _ (by kernel_rfl) (.tmp 36) (.tmp 37) 22 rfl w5.heap.size 5 i0 Tryd.underlying22 hi0 hz0 hz1 hz2 (some ⟨g4, 0, none⟩) 0 [] 0 rfl rfl F4 _ A n c key rfl HKL.out (HK5.out.ext FE) (by omega) FE.size ?_
          intro A6 c6 v3 F6 hG
          rw [List.nil_append] at F6
          rw [Nat.zero_add]
          replace F7 := F7.grown hG (fun g t hg e => hne (by simp [Value.ownBlock] at e; omega))
          replace F7lt := Nat.lt_of_lt_of_le F7lt hG.size
          replace FA : Arr v3 gw 26 .u8 32 C := grown_get hG FA (F4.notAt FA (by decide))
          replace FE := grown_new FE hG F4.ge
          clear F4 hG
          refine hK.out _ _ FA (fun _ => ?_)
          clear hK K
          try simp only [Act.put, List.setIfInBounds_toArray, List.set_cons_zero, List.set_cons_succ]
          refine wpAnyH_ready (rs := [8, 10]) (by kernel_rfl) (by simp) ?_
          refine AllReadyH.cons rfl (fun K hK => ?_) (AllReadyH.cons rfl (fun K hK => ?_) AllReadyH.nil)
          · skip
            have hown6 := F6.ge
            have hnot6 := F6.notAt FA (by decide)
            rw [HKL.out] at hown6 hnot6
            refine step_append_guard _ (by kernel_rfl) (.tmp 38) (.tmp 39) 22 rfl w5.heap.size 5 i0 Tryd.underlying22 hi0 hz0 hz1 hz2 A6 c6 key n rfl HKL.out F6 _ (some ⟨g7, 0, none⟩) 1 1 [0] rfl rfl F7 (by omega) FE.size ?_
            intro A8 c8 v4 F8 hG
            replace FA : Arr v4 gw 26 .u8 32 C := grown_get hG FA hnot6
            replace FE := grown_new FE hG hown6
            clear F6 F7 F7lt hG hown6 hnot6
            refine hK.out _ _ FA (fun _ => ?_)
            clear hK K
            try simp only [Act.put, List.setIfInBounds_toArray, List.set_cons_zero, List.set_cons_succ]
            refine wpAnyH_ready (rs := [10]) (by kernel_rfl) (by simp) ?_
            refine AllReadyH.cons rfl (fun K hK => ?_) AllReadyH.nil
            go_simp
            change K _ (World.alloc v4 (.cells #[.slice B b.length cb] 22))
            have hE : Ext v4 (World.alloc v4 (.cells #[.slice B b.length cb] 22)) := Ext.alloc _ _
            have N : RBC (World.alloc v4 (.cells #[.slice B b.length cb] 22)) (fun _ t => t = 22) (fun g _ => g < w5.heap.size) (some ⟨v4.heap.size, 0, none⟩) [b] := rbc_lit1 v4 22 (HB5.out.ext FE) HB1.out hb2
            have hgv : v4.heap.size < (World.alloc v4 (.cells #[.slice B b.length cb] 22)).heap.size := by simp
            obtain ⟨g10, hg0⟩ : ∃ g, g = v4.heap.size := ⟨_, rfl⟩
            rw [← hg0] at N hgv ⊢
            obtain ⟨v5, hv⟩ : ∃ x, x = World.alloc v4 (.cells #[.slice B b.length cb] 22) := ⟨_, rfl⟩
            rw [← hv] at N hE hgv ⊢
            clear hv
            clear hg0 hgv
            (try replace F4 := F4.ext hE)
            (try replace F6 := F6.ext hE)
            (try replace F7 := F7.ext hE)
            (try replace F7lt := Nat.lt_of_lt_of_le F7lt hE.size)
            (try replace F8 := F8.ext hE)
            (try replace F10 := F10.ext hE)
            replace FA := FA.ext hE
            replace FE := FE.tr hE
            clear hE
            have F10 := N
            clear N
            refine hK.out _ _ FA (fun _ => ?_)
            clear hK K
            try simp only [Act.put, List.setIfInBounds_toArray, List.set_cons_zero, List.set_cons_succ]
            refine wpAnyH_ready (rs := [11]) (by kernel_rfl) (by simp) ?_
            refine AllReadyH.cons rfl (fun K hK => ?_) AllReadyH.nil
            go_simp
            have hs := macSum_c A8 c8 (key ++ [0]) _ (some ⟨g10, 0, none⟩) 1 [b] _ _ v5 (HT.out.ext (HX5.out.tr FE)) F8.rb (by rw [List.length_append, HKL.out]; simp; omega) F8.le.1 (by have := F8.le.2; unfold maxLen at this; omega) F10 (by rw [fla_one]; omega) (by simp)
            rw [fla_one, HKZ.out, List.length_append, HKL.out] at hs
            refine hs.mono ?_
            rintro e v6 ⟨rfl, hE⟩
            clear hs F8 F10
            replace FA := FA.ext hE
            replace FE := FE.tr hE
            clear hE
            refine hK.out _ _ FA (fun _ => ?_)
            clear hK K
            try simp only [Act.put, List.setIfInBounds_toArray, List.set_cons_zero, List.set_cons_succ]
            refine wpAnyH_ready (rs := [13]) (by kernel_rfl) (by simp) ?_
            refine AllReadyH.cons rfl (fun K hK => ?_) AllReadyH.nil
            refine step_eql_tab (by kernel_rfl) 26 26 (.tmp 43) (.tmp 44) rfl .u8 32 C C rfl rfl 5 Tryd.underlying26 Tryd.underlying5 size_u8 cells_u8 noGuard_dig (fun _ _ => rfl) ?_
            refine hK.out _ _ FA (fun _ => ?_)
            clear hK K
            try simp only [Act.put, List.setIfInBounds_toArray, List.set_cons_zero, List.set_cons_succ]
            refine wpAnyH_ready (rs := [14]) (by kernel_rfl) (by simp) ?_
            refine AllReadyH.cons rfl (fun K hK => ?_) AllReadyH.nil
            go_simp
            refine hK.out _ _ FA (fun _ => ?_)
            clear hK K
            try simp only [Act.put, List.setIfInBounds_toArray, List.set_cons_zero, List.set_cons_succ]
            refine wpAnyH_ready (rs := [15]) (by kernel_rfl) (by simp) ?_
            refine AllReadyH.cons rfl (fun K hK => ?_) AllReadyH.nil
            go_simp
            refine hK.out _ _ FA (fun _ => ?_)
            clear hK K
            try simp only [Act.put, List.setIfInBounds_toArray, List.set_cons_zero, List.set_cons_succ]
            refine wpAnyH_done (by kernel_rfl) ?_ _
            exact ⟨rfl, rfl, rfl, HX5.out.tr FE⟩
          · skip
            go_simp
            change K _ (World.alloc v3 (.cells #[.slice B b.length cb] 22))
            have hE : Ext v3 (World.alloc v3 (.cells #[.slice B b.length cb] 22)) := Ext.alloc _ _
            have N : RBC (World.alloc v3 (.cells #[.slice B b.length cb] 22)) (fun _ t => t = 22) (fun g _ => g < w5.heap.size) (some ⟨v3.heap.size, 0, none⟩) [b] := rbc_lit1 v3 22 (HB5.out.ext FE) HB1.out hb2
            have hgv : v3.heap.size < (World.alloc v3 (.cells #[.slice B b.length cb] 22)).heap.size := by simp
            obtain ⟨g10, hg0⟩ : ∃ g, g = v3.heap.size := ⟨_, rfl⟩
            rw [← hg0] at N hgv ⊢
            obtain ⟨v4, hv⟩ : ∃ x, x = World.alloc v3 (.cells #[.slice B b.length cb] 22) := ⟨_, rfl⟩
            rw [← hv] at N hE hgv ⊢
            clear hv
            clear hg0 hgv
            (try replace F4 := F4.ext hE)
            (try replace F6 := F6.ext hE)
            (try replace F7 := F7.ext hE)
            (try replace F7lt := Nat.lt_of_lt_of_le F7lt hE.size)
            (try replace F8 := F8.ext hE)
            (try replace F10 := F10.ext hE)
            replace FA := FA.ext hE
            replace FE := FE.tr hE
            clear hE
            have F10 := N
            clear N
            refine hK.out _ _ FA (fun _ => ?_)
            clear hK K
            try simp only [Act.put, List.setIfInBounds_toArray, List.set_cons_zero, List.set_cons_succ]
            refine wpAnyH_ready (rs := [8]) (by kernel_rfl) (by simp) ?_
            refine AllReadyH.cons rfl (fun K hK => ?_) AllReadyH.nil
            have hown6 := F6.ge
            have hnot6 := F6.notAt FA (by decide)
            rw [HKL.out] at hown6 hnot6
            refine step_append_guard _ (by kernel_rfl) (.tmp 38) (.tmp 39) 22 rfl w5.heap.size 5 i0 Tryd.underlying22 hi0 hz0 hz1 hz2 A6 c6 key n rfl HKL.out F6 _ (some ⟨g7, 0, none⟩) 1 1 [0] rfl rfl F7 (by omega) FE.size ?_
            intro A8 c8 v5 F8 hG
            replace F10 := F10.own F6 (by rw [HKL.out]; exact hG)
            replace FA : Arr v5 gw 26 .u8 32 C := grown_get hG FA hnot6
            replace FE := grown_new FE hG hown6
            clear F6 F7 F7lt hG hown6 hnot6
            refine hK.out _ _ FA (fun _ => ?_)
            clear hK K
            try simp only [Act.put, List.setIfInBounds_toArray, List.set_cons_zero, List.set_cons_succ]
            refine wpAnyH_ready (rs := [11]) (by kernel_rfl) (by simp) ?_
            refine AllReadyH.cons rfl (fun K hK => ?_) AllReadyH.nil
            go_simp
            have hs := macSum_c A8 c8 (key ++ [0]) _ (some ⟨g10, 0, none⟩) 1 [b] _ _ v5 (HT.out.ext (HX5.out.tr FE)) F8.rb (by rw [List.length_append, HKL.out]; simp; omega) F8.le.1 (by have := F8.le.2; unfold maxLen at this; omega) F10 (by rw [fla_one]; omega) (by simp)
            rw [fla_one, HKZ.out, List.length_append, HKL.out] at hs
            refine hs.mono ?_
            rintro e v6 ⟨rfl, hE⟩
            clear hs F8 F10
            replace FA := FA.ext hE
            replace FE := FE.tr hE
            clear hE
            refine hK.out _ _ FA (fun _ => ?_)
            clear hK K
            try simp only [Act.put, List.setIfInBounds_toArray, List.set_cons_zero, List.set_cons_succ]
            refine wpAnyH_ready (rs := [13]) (by kernel_rfl) (by simp) ?_
            refine AllReadyH.cons rfl (fun K hK => ?_) AllReadyH.nil
            refine step_eql_tab (by kernel_rfl) 26 26 (.tmp 43) (.tmp 44) rfl .u8 32 C C rfl rfl 5 Tryd.underlying26 Tryd.underlying5 size_u8 cells_u8 noGuard_dig (fun _ _ => rfl) ?_
            refine hK.out _ _ FA (fun _ => ?_)
            clear hK K
            try simp only [Act.put, List.setIfInBounds_toArray, List.set_cons_zero, List.set_cons_succ]
            refine wpAnyH_ready (rs := [14]) (by kernel_rfl) (by simp) ?_
            refine AllReadyH.cons rfl (fun K hK => ?_) AllReadyH.nil
            go_simp
            refine hK.out _ _ FA (fun _ => ?_)
            clear hK K
            try simp only [Act.put, List.setIfInBounds_toArray, List.set_cons_zero, List.set_cons_succ]
            refine wpAnyH_ready (rs := [15]) (by kernel_rfl) (by simp) ?_
            refine AllReadyH.cons rfl (fun K hK => ?_) AllReadyH.nil
            go_simp
            refine hK.out _ _ FA (fun _ => ?_)
            clear hK K
            try simp only [Act.put, List.setIfInBounds_toArray, List.set_cons_zero, List.set_cons_succ]
            refine wpAnyH_done (by kernel_rfl) ?_ _
            exact ⟨rfl, rfl, rfl, HX5.out.tr FE⟩
        · skip
          go_simp
          change K _ (World.alloc v2 (.cells #[.slice B b.length cb] 22))
          have hE : Ext v2 (World.alloc v2 (.cells #[.slice B b.length cb] 22)) := Ext.alloc _ _
          have N : RBC (World.alloc v2 (.cells #[.slice B b.length cb] 22)) (fun _ t => t = 22) (fun g _ => g < w5.heap.size) (some ⟨v2.heap.size, 0, none⟩) [b] := rbc_lit1 v2 22 (HB5.out.ext FE) HB1.out hb2
          have hgv : v2.heap.size < (World.alloc v2 (.cells #[.slice B b.length cb] 22)).heap.size := by simp
          obtain ⟨g10, hg0⟩ : ∃ g, g = v2.heap.size := ⟨_, rfl⟩
          rw [← hg0] at N hgv ⊢
          obtain ⟨v3, hv⟩ : ∃ x, x = World.alloc v2 (.cells #[.slice B b.length cb] 22) := ⟨_, rfl⟩
          rw [← hv] at N hE hgv ⊢
          clear hv
          clear hg0 hgv
          (try replace F4 := F4.ext hE)
          (try replace F6 := F6.ext hE)
          (try replace F7 := F7.ext hE)
          (try replace F7lt := Nat.lt_of_lt_of_le F7lt hE.size)
          (try replace F8 := F8.ext hE)
          (try replace F10 := F10.ext hE)
          replace FA := FA.ext hE
          replace FE := FE.tr hE
          clear hE
          have F10 := N
          clear N
          refine hK.out _ _ FA (fun _ => ?_)
          clear hK K
          try simp only [Act.put, List.setIfInBounds_toArray, List.set_cons_zero, List.set_cons_succ]
          refine wpAnyH_ready (rs := [6]) (by kernel_rfl) (by simp) ?_
          refine AllReadyH.cons rfl (fun K hK => ?_) AllReadyH.nil
          refine step_append_guard _ (by kernel_rfl) (.tmp 36) (.tmp 37) 22 rfl w5.heap.size 5 i0 Tryd.underlying22 hi0 hz0 hz1 hz2 (some ⟨g4, 0, none⟩) 0 [] 0 rfl rfl F4 _ A n c key rfl HKL.out (HK5.out.ext FE) (by omega) FE.size ?_
          intro A6 c6 v4 F6 hG
          rw [List.nil_append] at F6
          rw [Nat.zero_add]
          replace F7 := F7.grown hG (fun g t hg e => hne (by simp [Value.ownBlock] at e; omega))
          replace F7lt := Nat.lt_of_lt_of_le F7lt hG.size
          replace F10 := F10.own F4 hG
          replace FA : Arr v4 gw 26 .u8 32 C := grown_get hG FA (F4.notAt FA (by decide))
          replace FE := grown_new FE hG F4.ge
          clear F4 hG
          refine hK.out _ _ FA (fun _ => ?_)
          clear hK K
          try simp only [Act.put, List.setIfInBounds_toArray, List.set_cons_zero, List.set_cons_succ]
          refine wpAnyH_ready (rs := [8]) (by kernel_rfl) (by simp) ?_
          refine AllReadyH.cons rfl (fun K hK => ?_) AllReadyH.nil
          have hown6 := F6.ge
          have hnot6 := F6.notAt FA (by decide)
          rw [HKL.out] at hown6 hnot6
          refine step_append_guard _ (by kernel_rfl) (.tmp 38) (.tmp 39) 22 rfl w5.heap.size 5 i0 Tryd.underlying22 hi0 hz0 hz1 hz2 A6 c6 key n rfl HKL.out F6 _ (some ⟨g7, 0, none⟩) 1 1 [0] rfl rfl F7 (by omega) FE.size ?_
          intro A8 c8 v5 F8 hG
          replace F10 := F10.own F6 (by rw [HKL.out]; exact hG)
          replace FA : Arr v5 gw 26 .u8 32 C := grown_get hG FA hnot6
          replace FE := grown_new FE hG hown6
          clear F6 F7 F7lt hG hown6 hnot6
          refine hK.out _ _ FA (fun _ => ?_)
          clear hK K
          try simp only [Act.put, List.setIfInBounds_toArray, List.set_cons_zero, List.set_cons_succ]
          refine wpAnyH_ready (rs := [11]) (by kernel_rfl) (by simp) ?_
          refine AllReadyH.cons rfl (fun K hK => ?_) AllReadyH.nil
          go_simp
          have hs := macSum_c A8 c8 (key ++ [0]) _ (some ⟨g10, 0, none⟩) 1 [b] _ _ v5 (HT.out.ext (HX5.out.tr FE)) F8.rb (by rw [List.length_append, HKL.out]; simp; omega) F8.le.1 (by have := F8.le.2; unfold maxLen at this; omega) F10 (by rw [fla_one]; omega) (by simp)
          rw [fla_one, HKZ.out, List.length_append, HKL.out] at hs
          refine hs.mono ?_
          rintro e v6 ⟨rfl, hE⟩
          clear hs F8 F10
          replace FA := FA.ext hE
          replace FE := FE.tr hE
          clear hE
          refine hK.out _ _ FA (fun _ => ?_)
          clear hK K
          try simp only [Act.put, List.setIfInBounds_toArray, List.set_cons_zero, List.set_cons_succ]
          refine wpAnyH_ready (rs := [13]) (by kernel_rfl) (by simp) ?_
          refine AllReadyH.cons rfl (fun K hK => ?_) AllReadyH.nil
          refine step_eql_tab (by kernel_rfl) 26 26 (.tmp 43) (.tmp 44) rfl .u8 32 C C rfl rfl 5 Tryd.underlying26 Tryd.underlying5 size_u8 cells_u8 noGuard_dig (fun _ _ => rfl) ?_
          refine hK.out _ _ FA (fun _ => ?_)
          clear hK K
          try simp only [Act.put, List.setIfInBounds_toArray, List.set_cons_zero, List.set_cons_succ]
          refine wpAnyH_ready (rs := [14]) (by kernel_rfl) (by simp) ?_
          refine AllReadyH.cons rfl (fun K hK => ?_) AllReadyH.nil
          go_simp
          refine hK.out _ _ FA (fun _ => ?_)
          clear hK K
          try simp only [Act.put, List.setIfInBounds_toArray, List.set_cons_zero, List.set_cons_succ]
          refine wpAnyH_ready (rs := [15]) (by kernel_rfl) (by simp) ?_
          refine AllReadyH.cons rfl (fun K hK => ?_) AllReadyH.nil
          go_simp
          refine hK.out _ _ FA (fun _ => ?_)
          clear hK K
          try simp only [Act.put, List.setIfInBounds_toArray, List.set_cons_zero, List.set_cons_succ]
          refine wpAnyH_done (by kernel_rfl) ?_ _
          exact ⟨rfl, rfl, rfl, HX5.out.tr FE⟩
      · skip
        go_simp
        change K _ (World.alloc v1 (.cells #[.slice B b.length cb] 22))
        have hE : Ext v1 (World.alloc v1 (.cells #[.slice B b.length cb] 22)) := Ext.alloc _ _
        have N : RBC (World.alloc v1 (.cells #[.slice B b.length cb] 22)) (fun _ t => t = 22) (fun g _ => g < w5.heap.size) (some ⟨v1.heap.size, 0, none⟩) [b] := rbc_lit1 v1 22 (HB5.out.ext FE) HB1.out hb2
        have hgv : v1.heap.size < (World.alloc v1 (.cells #[.slice B b.length cb] 22)).heap.size := by simp
        obtain ⟨g10, hg0⟩ : ∃ g, g = v1.heap.size := ⟨_, rfl⟩
        rw [← hg0] at N hgv ⊢
        obtain ⟨v2, hv⟩ : ∃ x, x = World.alloc v1 (.cells #[.slice B b.length cb] 22) := ⟨_, rfl⟩
        rw [← hv] at N hE hgv ⊢
        clear hv
        clear hg0 hgv
        (try replace F4 := F4.ext hE)
        (try replace F6 := F6.ext hE)
        (try replace F7 := F7.ext hE)
        (try replace F7lt := Nat.lt_of_lt_of_le F7lt hE.size)
        (try replace F8 := F8.ext hE)
        (try replace F10 := F10.ext hE)
        replace FA := FA.ext hE
        replace FE := FE.tr hE
        clear hE
        have F10 := N
        clear N
        refine hK.out _ _ FA (fun _ => ?_)
        clear hK K
        try simp only [Act.put, List.setIfInBounds_toArray, List.set_cons_zero, List.set_cons_succ]
        refine wpAnyH_ready (rs := [6, 7]) (by kernel_rfl) (by simp) ?_
        refine AllReadyH.cons rfl (fun K hK => ?_) (AllReadyH.cons rfl (fun K hK => ?_) AllReadyH.nil)
        · skip
          refine step_append_guard _ (by kernel_rfl) (.tmp 36) (.tmp 37) 22 rfl w5.heap.size 5 i0 Tryd.underlying22 hi0 hz0 hz1 hz2 (some ⟨g4, 0, none⟩) 0 [] 0 rfl rfl F4 _ A n c key rfl HKL.out (HK5.out.ext FE) (by omega) FE.size ?_
          intro A6 c6 v3 F6 hG
          rw [List.nil_append] at F6
          rw [Nat.zero_add]
          replace F10 := F10.own F4 hG
          replace FA : Arr v3 gw 26 .u8 32 C := grown_get hG FA (F4.notAt FA (by decide))
          replace FE := grown_new FE hG F4.ge
          clear F4 hG
          refine hK.out _ _ FA (fun _ => ?_)
          clear hK K
          try simp only [Act.put, List.setIfInBounds_toArray, List.set_cons_zero, List.set_cons_succ]
          refine wpAnyH_ready (rs := [7]) (by kernel_rfl) (by simp) ?_
          refine AllReadyH.cons rfl (fun K hK => ?_) AllReadyH.nil
          go_simp
          change K _ (World.alloc v3 (.cells #[.int .u8 0] 5))
          have hE : Ext v3 (World.alloc v3 (.cells #[.int .u8 0] 5)) := Ext.alloc _ _
          have N : RB (World.alloc v3 (.cells #[.int .u8 0] 5)) (fun g _ => g = v3.heap.size) (some ⟨v3.heap.size, 0, none⟩) [0] := lit_at v3 [0] #[.int .u8 0] 5 rfl
          have hgv : v3.heap.size < (World.alloc v3 (.cells #[.int .u8 0] 5)).heap.size := by simp
          obtain ⟨g7, hg0⟩ : ∃ g, g = v3.heap.size := ⟨_, rfl⟩
          rw [← hg0] at N hgv ⊢
          obtain ⟨v4, hv⟩ : ∃ x, x = World.alloc v3 (.cells #[.int .u8 0] 5) := ⟨_, rfl⟩
          rw [← hv] at N hE hgv ⊢
          clear hv
          clear hg0
          (try replace F4 := F4.ext hE)
          (try replace F6 := F6.ext hE)
          (try replace F7 := F7.ext hE)
          (try replace F7lt := Nat.lt_of_lt_of_le F7lt hE.size)
          (try replace F8 := F8.ext hE)
          (try replace F10 := F10.ext hE)
          replace FA := FA.ext hE
          replace FE := FE.tr hE
          clear hE
          have F7 := N
          have F7lt := hgv
          clear N hgv
          refine hK.out _ _ FA (fun _ => ?_)
          clear hK K
          try simp only [Act.put, List.setIfInBounds_toArray, List.set_cons_zero, List.set_cons_succ]
          refine wpAnyH_ready (rs := [8]) (by kernel_rfl) (by simp) ?_
          refine AllReadyH.cons rfl (fun K hK => ?_) AllReadyH.nil
          have hown6 := F6.ge
          have hnot6 := F6.notAt FA (by decide)
          rw [HKL.out] at hown6 hnot6
          refine step_append_guard _ (by kernel_rfl) (.tmp 38) (.tmp 39) 22 rfl w5.heap.size 5 i0 Tryd.underlying22 hi0 hz0 hz1 hz2 A6 c6 key n rfl HKL.out F6 _ (some ⟨g7, 0, none⟩) 1 1 [0] rfl rfl F7 (by omega) FE.size ?_
          intro A8 c8 v5 F8 hG
          replace F10 := F10.own F6 (by rw [HKL.out]; exact hG)
          replace FA : Arr v5 gw 26 .u8 32 C := grown_get hG FA hnot6
          replace FE := grown_new FE hG hown6
          clear F6 F7 F7lt hG hown6 hnot6
          refine hK.out _ _ FA (fun _ => ?_)
          clear hK K
          try simp only [Act.put, List.setIfInBounds_toArray, List.set_cons_zero, List.set_cons_succ]
          refine wpAnyH_ready (rs := [11]) (by kernel_rfl) (by simp) ?_
          refine AllReadyH.cons rfl (fun K hK => ?_) AllReadyH.nil
          go_simp
          have hs := macSum_c A8 c8 (key ++ [0]) _ (some ⟨g10, 0, none⟩) 1 [b] _ _ v5 (HT.out.ext (HX5.out.tr FE)) F8.rb (by rw [List.length_append, HKL.out]; simp; omega) F8.le.1 (by have := F8.le.2; unfold maxLen at this; omega) F10 (by rw [fla_one]; omega) (by simp)
          rw [fla_one, HKZ.out, List.length_append, HKL.out] at hs
          refine hs.mono ?_
          rintro e v6 ⟨rfl, hE⟩
          clear hs F8 F10
          replace FA := FA.ext hE
          replace FE := FE.tr hE
          clear hE
          refine hK.out _ _ FA (fun _ => ?_)
          clear hK K
          try simp only [Act.put, List.setIfInBounds_toArray, List.set_cons_zero, List.set_cons_succ]
          refine wpAnyH_ready (rs := [13]) (by kernel_rfl) (by simp) ?_
          refine AllReadyH.cons rfl (fun K hK => ?_) AllReadyH.nil
          refine step_eql_tab (by kernel_rfl) 26 26 (.tmp 43) (.tmp 44) rfl .u8 32 C C rfl rfl 5 Tryd.underlying26 Tryd.underlying5 size_u8 cells_u8 noGuard_dig (fun _ _ => rfl) ?_
          refine hK.out _ _ FA (fun _ => ?_)
          clear hK K
          try simp only [Act.put, List.setIfInBounds_toArray, List.set_cons_zero, List.set_cons_succ]
          refine wpAnyH_ready (rs := [14]) (by kernel_rfl) (by simp) ?_
          refine AllReadyH.cons rfl (fun K hK => ?_) AllReadyH.nil
          go_simp
          refine hK.out _ _ FA (fun _ => ?_)
          clear hK K
          try simp only [Act.put, List.setIfInBounds_toArray, List.set_cons_zero, List.set_cons_succ]
          refine wpAnyH_ready (rs := [15]) (by kernel_rfl) (by simp) ?_
          refine AllReadyH.cons rfl (fun K hK => ?_) AllReadyH.nil
          go_simp
          refine hK.out _ _ FA (fun _ => ?_)
          clear hK K
          try simp only [Act.put, List.setIfInBounds_toArray, List.set_cons_zero, List.set_cons_succ]
          refine wpAnyH_done (by kernel_rfl) ?_ _
          exact ⟨rfl, rfl, rfl, HX5.out.tr FE⟩
        · skip
          go_simp
          change K _ (World.alloc v2 (.cells #[.int .u8 0] 5))
          have hE : Ext v2 (World.alloc v2 (.cells #[.int .u8 0] 5)) := Ext.alloc _ _
          have N : RB (World.alloc v2 (.cells #[.int .u8 0] 5)) (fun g _ => g = v2.heap.size) (some ⟨v2.heap.size, 0, none⟩) [0] := lit_at v2 [0] #[.int .u8 0] 5 rfl
          have hgv : v2.heap.size < (World.alloc v2 (.cells #[.int .u8 0] 5)).heap.size := by simp
          obtain ⟨g7, hg0⟩ : ∃ g, g = v2.heap.size := ⟨_, rfl⟩
          rw [← hg0] at N hgv ⊢
          obtain ⟨v3, hv⟩ : ∃ x, x = World.alloc v2 (.cells #[.int .u8 0] 5) := ⟨_, rfl⟩
          rw [← hv] at N hE hgv ⊢
          clear hv
          have hne : g7 ≠ g4 := by have := F4.at_.2; omega
          clear hg0
          (try replace F4 := F4.ext hE)
          (try replace F6 := F6.ext hE)
          (try replace F7 := F7.ext hE)
          (try replace F7lt := Nat.lt_of_lt_of_le F7lt hE.size)
          (try replace F8 := F8.ext hE)
          (try replace F10 := F10.ext hE)
          replace FA := FA.ext hE
          replace FE := FE.tr hE
          clear hE
          have F7 := N
          have F7lt := hgv
          clear N hgv
          refine hK.out _ _ FA (fun _ => ?_)
          clear hK K
          try simp only [Act.put, List.setIfInBounds_toArray, List.set_cons_zero, List.set_cons_succ]
          refine wpAnyH_ready (rs := [6]) (by kernel_rfl) (by simp) ?_
          refine AllReadyH.cons rfl (fun K hK => ?_) AllReadyH.nil
          refine step_append_guard _ (by kernel_rfl) (.tmp 36) (.tmp 37) 22 rfl w5.heap.size 5 i0 Tryd.underlying22 hi0 hz0 hz1 hz2 (some ⟨g4, 0, none⟩) 0 [] 0 rfl rfl F4 _ A n c key rfl HKL.out (HK5.out.ext FE) (by omega) FE.size ?_
          intro A6 c6 v4 F6 hG
          rw [List.nil_append] at F6
          rw [Nat.zero_add]
          replace F7 := F7.grown hG (fun g t hg e => hne (by simp [Value.ownBlock] at e; omega))
          replace F7lt := Nat.lt_of_lt_of_le F7lt hG.size
          replace F10 := F10.own F4 hG
          replace FA : Arr v4 gw 26 .u8 32 C := grown_get hG FA (F4.notAt FA (by decide))
          replace FE := grown_new FE hG F4.ge
          clear F4 hG
          refine hK.out _ _ FA (fun _ => ?_)
          clear hK K
          try simp only [Act.put, List.setIfInBounds_toArray, List.set_cons_zero, List.set_cons_succ]
          refine wpAnyH_ready (rs := [8]) (by kernel_rfl) (by simp) ?_
          refine AllReadyH.cons rfl (fun K hK => ?_) AllReadyH.nil
          have hown6 := F6.ge
          have hnot6 := F6.notAt FA (by decide)
          rw [HKL.out] at hown6 hnot6
          refine step_append_guard _ (by kernel_rfl) (.tmp 38) (.tmp 39) 22 rfl w5.heap.size 5 i0 Tryd.underlying22 hi0 hz0 hz1 hz2 A6 c6 key n rfl HKL.out F6 _ (some ⟨g7, 0, none⟩) 1 1 [0] rfl rfl F7 (by omega) FE.size ?_
          intro A8 c8 v5 F8 hG
          replace F10 := F10.own F6 (by rw [HKL.out]; exact hG)
          replace FA : Arr v5 gw 26 .u8 32 C := grown_get hG FA hnot6
          replace FE := grown_new FE hG hown6
          clear F6 F7 F7lt hG hown6 hnot6
          refine hK.out _ _ FA (fun _ => ?_)
          clear hK K
          try simp only [Act.put, List.setIfInBounds_toArray, List.set_cons_zero, List.set_cons_succ]
          refine wpAnyH_ready (rs := [11]) (by kernel_rfl) (by simp) ?_
          refine AllReadyH.cons rfl (fun K hK => ?_) AllReadyH.nil
          go_simp
          have hs := macSum_c A8 c8 (key ++ [0]) _ (some ⟨g10, 0, none⟩) 1 [b] _ _ v5 (HT.out.ext (HX5.out.tr FE)) F8.rb (by rw [List.length_append, HKL.out]; simp; omega) F8.le.1 (by have := F8.le.2; unfold maxLen at this; omega) F10 (by rw [fla_one]; omega) (by simp)
          rw [fla_one, HKZ.out, List.length_append, HKL.out] at hs
          refine hs.mono ?_
          rintro e v6 ⟨rfl, hE⟩
          clear hs F8 F10
          replace FA := FA.ext hE
          replace FE := FE.tr hE
          clear hE
          refine hK.out _ _ FA (fun _ => ?_)
          clear hK K
          try simp only [Act.put, List.setIfInBounds_toArray, List.set_cons_zero, List.set_cons_succ]
          refine wpAnyH_ready (rs := [13]) (by kernel_rfl) (by simp) ?_
          refine AllReadyH.cons rfl (fun K hK => ?_) AllReadyH.nil
          refine step_eql_tab (by kernel_rfl) 26 26 (.tmp 43) (.tmp 44) rfl .u8 32 C C rfl rfl 5 Tryd.underlying26 Tryd.underlying5 size_u8 cells_u8 noGuard_dig (fun _ _ => rfl) ?_
          refine hK.out _ _ FA (fun _ => ?_)
          clear hK K
          try simp only [Act.put, List.setIfInBounds_toArray, List.set_cons_zero, List.set_cons_succ]
          refine wpAnyH_ready (rs := [14]) (by kernel_rfl) (by simp) ?_
          refine AllReadyH.cons rfl (fun K hK => ?_) AllReadyH.nil
          go_simp
          refine hK.out _ _ FA (fun _ => ?_)
          clear hK K
          try simp only [Act.put, List.setIfInBounds_toArray, List.set_cons_zero, List.set_cons_succ]
          refine wpAnyH_ready (rs := [15]) (by kernel_rfl) (by simp) ?_
          refine AllReadyH.cons rfl (fun K hK => ?_) AllReadyH.nil
          go_simp
          refine hK.out _ _ FA (fun _ => ?_)
          clear hK K
          try simp only [Act.put, List.setIfInBounds_toArray, List.set_cons_zero, List.set_cons_succ]
          refine wpAnyH_done (by kernel_rfl) ?_ _
          exact ⟨rfl, rfl, rfl, HX5.out.tr FE⟩
    · skip
      go_simp
      change K _ (World.alloc v0 (.cells #[.int .u8 0] 5))
      have hE : Ext v0 (World.alloc v0 (.cells #[.int .u8 0] 5)) := Ext.alloc _ _
      have N : RB (World.alloc v0 (.cells #[.int .u8 0] 5)) (fun g _ => g = v0.heap.size) (some ⟨v0.heap.size, 0, none⟩) [0] := lit_at v0 [0] #[.int .u8 0] 5 rfl
      have hgv : v0.heap.size < (World.alloc v0 (.cells #[.int .u8 0] 5)).heap.size := by simp
      obtain ⟨g7, hg0⟩ : ∃ g, g = v0.heap.size := ⟨_, rfl⟩
      rw [← hg0] at N hgv ⊢
      obtain ⟨v1, hv⟩ : ∃ x, x = World.alloc v0 (.cells #[.int .u8 0] 5) := ⟨_, rfl⟩
      rw [← hv] at N hE hgv ⊢
      clear hv
      clear hg0
      (try replace F4 := F4.ext hE)
      (try replace F6 := F6.ext hE)
      (try replace F7 := F7.ext hE)
      (try replace F7lt := Nat.lt_of_lt_of_le F7lt hE.size)
      (try replace F8 := F8.ext hE)
      (try replace F10 := F10.ext hE)
      replace FA := FA.ext hE
      replace FE := FE.tr hE
      clear hE
      have F7 := N
      have F7lt := hgv
      clear N hgv
      refine hK.out _ _ FA (fun _ => ?_)
      clear hK K
      try simp only [Act.put, List.setIfInBounds_toArray, List.set_cons_zero, List.set_cons_succ]
      refine wpAnyH_ready (rs := [4, 10]) (by kernel_rfl) (by simp) ?_
      refine AllReadyH.cons rfl (fun K hK => ?_) (AllReadyH.cons rfl (fun K hK => ?_) AllReadyH.nil)
      · skip
        go_simp
        change K _ (World.alloc v1 (.cells #[] 5))
        have hE : Ext v1 (World.alloc v1 (.cells #[] 5)) := Ext.alloc _ _
        have N : OwnB (World.alloc v1 (.cells #[] 5)) 5 w5.heap.size (some ⟨v1.heap.size, 0, none⟩) 0 [] := OwnB.lit (w := v1) [] #[] rfl FE.size (by simp [maxLen])
        have hgv : v1.heap.size < (World.alloc v1 (.cells #[] 5)).heap.size := by simp
        obtain ⟨g4, hg0⟩ : ∃ g, g = v1.heap.size := ⟨_, rfl⟩
        rw [← hg0] at N hgv ⊢
        obtain ⟨v2, hv⟩ : ∃ x, x = World.alloc v1 (.cells #[] 5) := ⟨_, rfl⟩
        rw [← hv] at N hE hgv ⊢
        clear hv
        have hne : g7 ≠ g4 := by omega
        clear hg0 hgv
        (try replace F4 := F4.ext hE)
        (try replace F6 := F6.ext hE)
        (try replace F7 := F7.ext hE)
        (try replace F7lt := Nat.lt_of_lt_of_le F7lt hE.size)
        (try replace F8 := F8.ext hE)
        (try replace F10 := F10.ext hE)
        replace FA := FA.ext hE
        replace FE := FE.tr hE
        clear hE
        have F4 := N
        clear N
        refine hK.out _ _ FA (fun _ => ?_)
        clear hK K
        try simp only [Act.put, List.setIfInBounds_toArray, List.set_cons_zero, List.set_cons_succ]
        refine wpAnyH_ready (rs := [6, 10]) (by kernel_rfl) (by simp) ?_
        refine AllReadyH.cons rfl (fun K hK => ?_) (AllReadyH.cons rfl (fun K hK => ?_) AllReadyH.nil)
        · skip
          refine step_append_guard _ (by kernel_rfl) (.tmp 36) (.tmp 37) 22 rfl w5.heap.size 5 i0 Tryd.underlying22 hi0 hz0 hz1 hz2 (some ⟨g4, 0, none⟩) 0 [] 0 rfl rfl F4 _ A n c key rfl HKL.out (HK5.out.ext FE) (by omega) FE.size ?_
          intro A6 c6 v3 F6 hG
          rw [List.nil_append] at F6
          rw [Nat.zero_add]
          replace F7 := F7.grown hG (fun g t hg e => hne (by simp [Value.ownBlock] at e; omega))
          replace F7lt := Nat.lt_of_lt_of_le F7lt hG.size
          replace FA : Arr v3 gw 26 .u8 32 C := grown_get hG FA (F4.notAt FA (by decide))
          replace FE := grown_new FE hG F4.ge
          clear F4 hG
          refine hK.out _ _ FA (fun _ => ?_)
          clear hK K
          try simp only [Act.put, List.setIfInBounds_toArray, List.set_cons_zero, List.set_cons_succ]
          refine wpAnyH_ready (rs := [8, 10]) (by kernel_rfl) (by simp) ?_
          refine AllReadyH.cons rfl (fun K hK => ?_) (AllReadyH.cons rfl (fun K hK => ?_) AllReadyH.nil)
          · skip
            have hown6 := F6.ge
            have hnot6 := F6.notAt FA (by decide)
            rw [HKL.out] at hown6 hnot6
            refine step_append_guard _ (by kernel_rfl) (.tmp 38) (.tmp 39) 22 rfl w5.heap.size 5 i0 Tryd.underlying22 hi0 hz0 hz1 hz2 A6 c6 key n rfl HKL.out F6 _ (some ⟨g7, 0, none⟩) 1 1 [0] rfl rfl F7 (by omega) FE.size ?_
            intro A8 c8 v4 F8 hG
            replace FA : Arr v4 gw 26 .u8 32 C := grown_get hG FA hnot6
            replace FE := grown_new FE hG hown6
            clear F6 F7 F7lt hG hown6 hnot6
            refine hK.out _ _ FA (fun _ => ?_)
            clear hK K
            try simp only [Act.put, List.setIfInBounds_toArray, List.set_cons_zero, List.set_cons_succ]
            refine wpAnyH_ready (rs := [10]) (by kernel_rfl) (by simp) ?_
            refine AllReadyH.cons rfl (fun K hK => ?_) AllReadyH.nil
            go_simp
            change K _ (World.alloc v4 (.cells #[.slice B b.length cb] 22))
            have hE : Ext v4 (World.alloc v4 (.cells #[.slice B b.length cb] 22)) := Ext.alloc _ _
            have N : RBC (World.alloc v4 (.cells #[.slice B b.length cb] 22)) (fun _ t => t = 22) (fun g _ => g < w5.heap.size) (some ⟨v4.heap.size, 0, none⟩) [b] := rbc_lit1 v4 22 (HB5.out.ext FE) HB1.out hb2
            have hgv : v4.heap.size < (World.alloc v4 (.cells #[.slice B b.length cb] 22)).heap.size := by simp
            obtain ⟨g10, hg0⟩ : ∃ g, g = v4.heap.size := ⟨_, rfl⟩
            rw [← hg0] at N hgv ⊢
            obtain ⟨v5, hv⟩ : ∃ x, x = World.alloc v4 (.cells #[.slice B b.length cb] 22) := ⟨_, rfl⟩
            rw [← hv] at N hE hgv ⊢
            clear hv
            clear hg0 hgv
            (try replace F4 := F4.ext hE)
            (try replace F6 := F6.ext hE)
            (try replace F7 := F7.ext hE)
            (try replace F7lt := Nat.lt_of_lt_of_le F7lt hE.size)
            (try replace F8 := F8.ext hE)
            (try replace F10 := F10.ext hE)
            replace FA := FA.ext hE
            replace FE := FE.tr hE
            clear hE
            have F10 := N
            clear N
            refine hK.out _ _ FA (fun _ => ?_)
            clear hK K
            try simp only [Act.put, List.setIfInBounds_toArray, List.set_cons_zero, List.set_cons_succ]
            refine wpAnyH_ready (rs := [11]) (by kernel_rfl) (by simp) ?_
            refine AllReadyH.cons rfl (fun K hK => ?_) AllReadyH.nil
            go_simp
            have hs := macSum_c A8 c8 (key ++ [0]) _ (some ⟨g10, 0, none⟩) 1 [b] _ _ v5 (HT.out.ext (HX5.out.tr FE)) F8.rb (by rw [List.length_append, HKL.out]; simp; omega) F8.le.1 (by have := F8.le.2; unfold maxLen at this; omega) F10 (by rw [fla_one]; omega) (by simp)
            rw [fla_one, HKZ.out, List.length_append, HKL.out] at hs
            refine hs.mono ?_
            rintro e v6 ⟨rfl, hE⟩
            clear hs F8 F10
            replace FA := FA.ext hE
            replace FE := FE.tr hE
            clear hE
            refine hK.out _ _ FA (fun _ => ?_)
            clear hK K
            try simp only [Act.put, List.setIfInBounds_toArray, List.set_cons_zero, List.set_cons_succ]
            refine wpAnyH_ready (rs := [13]) (by kernel_rfl) (by simp) ?_
            refine AllReadyH.cons rfl (fun K hK => ?_) AllReadyH.nil
            refine step_eql_tab (by kernel_rfl) 26 26 (.tmp 43) (.tmp 44) rfl .u8 32 C C rfl rfl 5 Tryd.underlying26 Tryd.underlying5 size_u8 cells_u8 noGuard_dig (fun _ _ => rfl) ?_
            refine hK.out _ _ FA (fun _ => ?_)
            clear hK K
            try simp only [Act.put, List.setIfInBounds_toArray, List.set_cons_zero, List.set_cons_succ]
            refine wpAnyH_ready (rs := [14]) (by kernel_rfl) (by simp) ?_
            refine AllReadyH.cons rfl (fun K hK => ?_) AllReadyH.nil
            go_simp
            refine hK.out _ _ FA (fun _ => ?_)
            clear hK K
            try simp only [Act.put, List.setIfInBounds_toArray, List.set_cons_zero, List.set_cons_succ]
            refine wpAnyH_ready (rs := [15]) (by kernel_rfl) (by simp) ?_
            refine AllReadyH.cons rfl (fun K hK => ?_) AllReadyH.nil
            go_simp
            refine hK.out _ _ FA (fun _ => ?_)
            clear hK K
            try simp only [Act.put, List.setIfInBounds_toArray, List.set_cons_zero, List.set_cons_succ]
            refine wpAnyH_done (by kernel_rfl) ?_ _
            exact ⟨rfl, rfl, rfl, HX5.out.tr FE⟩
          · skip
            go_simp
            change K _ (World.alloc v3 (.cells #[.slice B b.length cb] 22))
            have hE : Ext v3 (World.alloc v3 (.cells #[.slice B b.length cb] 22)) := Ext.alloc _ _
            have N : RBC (World.alloc v3 (.cells #[.slice B b.length cb] 22)) (fun _ t => t = 22) (fun g _ => g < w5.heap.size) (some ⟨v3.heap.size, 0, none⟩) [b] := rbc_lit1 v3 22 (HB5.out.ext FE) HB1.out hb2
            have hgv : v3.heap.size < (World.alloc v3 (.cells #[.slice B b.length cb] 22)).heap.size := by simp
            obtain ⟨g10, hg0⟩ : ∃ g, g = v3.heap.size := ⟨_, rfl⟩
            rw [← hg0] at N hgv ⊢
            obtain ⟨v4, hv⟩ : ∃ x, x = World.alloc v3 (.cells #[.slice B b.length cb] 22) := ⟨_, rfl⟩
            rw [← hv] at N hE hgv ⊢
            clear hv
            clear hg0 hgv
            (try replace F4 := F4.ext hE)
            (try replace F6 := F6.ext hE)
            (try replace F7 := F7.ext hE)
            (try replace F7lt := Nat.lt_of_lt_of_le F7lt hE.size)
            (try replace F8 := F8.ext hE)
            (try replace F10 := F10.ext hE)
            replace FA := FA.ext hE
            replace FE := FE.tr hE
            clear hE
            have F10 := N
            clear N
            refine hK.out _ _ FA (fun _ => ?_)
            clear hK K
            try simp only [Act.put, List.setIfInBounds_toArray, List.set_cons_zero, List.set_cons_succ]
            refine wpAnyH_ready (rs := [8]) (by kernel_rfl) (by simp) ?_
            refine AllReadyH.cons rfl (fun K hK => ?_) AllReadyH.nil
            have hown6 := F6.ge
            have hnot6 := F6.notAt FA (by decide)
            rw [HKL.out] at hown6 hnot6
            refine step_append_guard _ (by kernel_rfl) (.tmp 38) (.tmp 39) 22 rfl w5.heap.size 5 i0 Tryd.underlying22 hi0 hz0 hz1 hz2 A6 c6 key n rfl HKL.out F6 _ (some ⟨g7, 0, none⟩) 1 1 [0] rfl rfl F7 (by omega) FE.size ?_
            intro A8 c8 v5 F8 hG
            replace F10 := F10.own F6 (by rw [HKL.out]; exact hG)
            replace FA : Arr v5 gw 26 .u8 32 C := grown_get hG FA hnot6
            replace FE := grown_new FE hG hown6
            clear F6 F7 F7lt hG hown6 hnot6
            refine hK.out _ _ FA (fun _ => ?_)
            clear hK K
            try simp only [Act.put, List.setIfInBounds_toArray, List.set_cons_zero, List.set_cons_succ]
            refine wpAnyH_ready (rs := [11]) (by kernel_rfl) (by simp) ?_
            refine AllReadyH.cons rfl (fun K hK => ?_) AllReadyH.nil
            go_simp
            have hs := macSum_c A8 c8 (key ++ [0]) _ (some ⟨g10, 0, none⟩) 1 [b] _ _ v5 (HT.out.ext (HX5.out.tr FE)) F8.rb (by rw [List.length_append, HKL.out]; simp; omega) F8.le.1 (by have := F8.le.2; unfold maxLen at this; omega) F10 (by rw [fla_one]; omega) (by simp)
            rw [fla_one, HKZ.out, List.length_append, HKL.out] at hs
            refine hs.mono ?_
            rintro e v6 ⟨rfl, hE⟩
            clear hs F8 F10
            replace FA := FA.ext hE
            replace FE := FE.tr hE
            clear hE
            refine hK.out _ _ FA (fun _ => ?_)
            clear hK K
            try simp only [Act.put, List.setIfInBounds_toArray, List.set_cons_zero, List.set_cons_succ]
            refine wpAnyH_ready (rs := [13]) (by kernel_rfl) (by simp) ?_
            refine AllReadyH.cons rfl (fun K hK => ?_) AllReadyH.nil
            refine step_eql_tab (by kernel_rfl) 26 26 (.tmp 43) (.tmp 44) rfl .u8 32 C C rfl rfl 5 Tryd.underlying26 Tryd.underlying5 size_u8 cells_u8 noGuard_dig (fun _ _ => rfl) ?_
            refine hK.out _ _ FA (fun _ => ?_)
            clear hK K
            try simp only [Act.put, List.setIfInBounds_toArray, List.set_cons_zero, List.set_cons_succ]
            refine wpAnyH_ready (rs := [14]) (by kernel_rfl) (by simp) ?_
            refine AllReadyH.cons rfl (fun K hK => ?_) AllReadyH.nil
            go_simp
            refine hK.out _ _ FA (fun _ => ?_)
            clear hK K
            try simp only [Act.put, List.setIfInBounds_toArray, List.set_cons_zero, List.set_cons_succ]
            refine wpAnyH_ready (rs := [15]) (by kernel_rfl) (by simp) ?_
            refine AllReadyH.cons rfl (fun K hK => ?_) AllReadyH.nil
            go_simp
            refine hK.out _ _ FA (fun _ => ?_)
            clear hK K
            try simp only [Act.put, List.setIfInBounds_toArray, List.set_cons_zero, List.set_cons_succ]
            refine wpAnyH_done (by kernel_rfl) ?_ _
            exact ⟨rfl, rfl, rfl, HX5.out.tr FE⟩
        · skip
          go_simp
          change K _ (World.alloc v2 (.cells #[.slice B b.length cb] 22))
          have hE : Ext v2 (World.alloc v2 (.cells #[.slice B b.length cb] 22)) := Ext.alloc _ _
          have N : RBC (World.alloc v2 (.cells #[.slice B b.length cb] 22)) (fun _ t => t = 22) (fun g _ => g < w5.heap.size) (some ⟨v2.heap.size, 0, none⟩) [b] := rbc_lit1 v2 22 (HB5.out.ext FE) HB1.out hb2
          have hgv : v2.heap.size < (World.alloc v2 (.cells #[.slice B b.length cb] 22)).heap.size := by simp
          obtain ⟨g10, hg0⟩ : ∃ g, g = v2.heap.size := ⟨_, rfl⟩
          rw [← hg0] at N hgv ⊢
          obtain ⟨v3, hv⟩ : ∃ x, x = World.alloc v2 (.cells #[.slice B b.length cb] 22) := ⟨_, rfl⟩
          rw [← hv] at N hE hgv ⊢
          clear hv
          clear hg0 hgv
          (try replace F4 := F4.ext hE)
          (try replace F6 := F6.ext hE)
          (try replace F7 := F7.ext hE)
          (try replace F7lt := Nat.lt_of_lt_of_le F7lt hE.size)
          (try replace F8 := F8.ext hE)
          (try replace F10 := F10.ext hE)
          replace FA := FA.ext hE
          replace FE := FE.tr hE
          clear hE
          have F10 := N
          clear N
          refine hK.out _ _ FA (fun _ => ?_)
          clear hK K
          try simp only [Act.put, List.setIfInBounds_toArray, List.set_cons_zero, List.set_cons_succ]
          refine wpAnyH_ready (rs := [6]) (by kernel_rfl) (by simp) ?_
          refine AllReadyH.cons rfl (fun K hK => ?_) AllReadyH.nil
          refine step_append_guard _ (by kernel_rfl) (.tmp 36) (.tmp 37) 22 rfl w5.heap.size 5 i0 Tryd.underlying22 hi0 hz0 hz1 hz2 (some ⟨g4, 0, none⟩) 0 [] 0 rfl rfl F4 _ A n c key rfl HKL.out (HK5.out.ext FE) (by omega) FE.size ?_
          intro A6 c6 v4 F6 hG
          rw [List.nil_append] at F6
          rw [Nat.zero_add]
          replace F7 := F7.grown hG (fun g t hg e => hne (by simp [Value.ownBlock] at e; omega))
          replace F7lt := Nat.lt_of_lt_of_le F7lt hG.size
          replace F10 := F10.own F4 hG
          replace FA : Arr v4 gw 26 .u8 32 C := grown_get hG FA (F4.notAt FA (by decide))
          replace FE := grown_new FE hG F4.ge
          clear F4 hG
          refine hK.out _ _ FA (fun _ => ?_)
          clear hK K
          try simp only [Act.put, List.setIfInBounds_toArray, List.set_cons_zero, List.set_cons_succ]
          refine wpAnyH_ready (rs := [8]) (by kernel_rfl) (by simp) ?_
          refine AllReadyH.cons rfl (fun K hK => ?_) AllReadyH.nil
          have hown6 := F6.ge
          have hnot6 := F6.notAt FA (by decide)
          rw [HKL.out] at hown6 hnot6
          refine step_append_guard _ (by kernel_rfl) (.tmp 38) (.tmp 39) 22 rfl w5.heap.size 5 i0 Tryd.underlying22 hi0 hz0 hz1 hz2 A6 c6 key n rfl HKL.out F6 _ (some ⟨g7, 0, none⟩) 1 1 [0] rfl rfl F7 (by omega) FE.size ?_
          intro A8 c8 v5 F8 hG
          replace F10 := F10.own F6 (by rw [HKL.out]; exact hG)
          replace FA : Arr v5 gw 26 .u8 32 C := grown_get hG FA hnot6
          replace FE := grown_new FE hG hown6
          clear F6 F7 F7lt hG hown6 hnot6
          refine hK.out _ _ FA (fun _ => ?_)
          clear hK K
          try simp only [Act.put, List.setIfInBounds_toArray, List.set_cons_zero, List.set_cons_succ]
          refine wpAnyH_ready (rs := [11]) (by kernel_rfl) (by simp) ?_
          refine AllReadyH.cons rfl (fun K hK => ?_) AllReadyH.nil
          go_simp
          have hs := macSum_c A8 c8 (key ++ [0]) _ (some ⟨g10, 0, none⟩) 1 [b] _ _ v5 (HT.out.ext (HX5.out.tr FE)) F8.rb (by rw [List.length_append, HKL.out]; simp; omega) F8.le.1 (by have := F8.le.2; unfold maxLen at this; omega) F10 (by rw [fla_one]; omega) (by simp)
          rw [fla_one, HKZ.out, List.length_append, HKL.out] at hs
          refine hs.mono ?_
          rintro e v6 ⟨rfl, hE⟩
          clear hs F8 F10
          replace FA := FA.ext hE
          replace FE := FE.tr hE
          clear hE
          refine hK.out _ _ FA (fun _ => ?_)
          clear hK K
          try simp only [Act.put, List.setIfInBounds_toArray, List.set_cons_zero, List.set_cons_succ]
          refine wpAnyH_ready (rs := [13]) (by kernel_rfl) (by simp) ?_
          refine AllReadyH.cons rfl (fun K hK => ?_) AllReadyH.nil
          refine step_eql_tab (by kernel_rfl) 26 26 (.tmp 43) (.tmp 44) rfl .u8 32 C C rfl rfl 5 Tryd.underlying26 Tryd.underlying5 size_u8 cells_u8 noGuard_dig (fun _ _ => rfl) ?_
          refine hK.out _ _ FA (fun _ => ?_)
          clear hK K
          try simp only [Act.put, List.setIfInBounds_toArray, List.set_cons_zero, List.set_cons_succ]
          refine wpAnyH_ready (rs := [14]) (by kernel_rfl) (by simp) ?_
          refine AllReadyH.cons rfl (fun K hK => ?_) AllReadyH.nil
          go_simp
          refine hK.out _ _ FA (fun _ => ?_)
          clear hK K
          try simp only [Act.put, List.setIfInBounds_toArray, List.set_cons_zero, List.set_cons_succ]
          refine wpAnyH_ready (rs := [15]) (by kernel_rfl) (by simp) ?_
          refine AllReadyH.cons rfl (fun K hK => ?_) AllReadyH.nil
          go_simp
          refine hK.out _ _ FA (fun _ => ?_)
          clear hK K
          try simp only [Act.put, List.setIfInBounds_toArray, List.set_cons_zero, List.set_cons_succ]
          refine wpAnyH_done (by kernel_rfl) ?_ _
          exact ⟨rfl, rfl, rfl, HX5.out.tr FE⟩
      · skip
        go_simp
        change K _ (World.alloc v1 (.cells #[.slice B b.length cb] 22))
        have hE : Ext v1 (World.alloc v1 (.cells #[.slice B b.length cb] 22)) := Ext.alloc _ _
        have N : RBC (World.alloc v1 (.cells #[.slice B b.length cb] 22)) (fun _ t => t = 22) (fun g _ => g < w5.heap.size) (some ⟨v1.heap.size, 0, none⟩) [b] := rbc_lit1 v1 22 (HB5.out.ext FE) HB1.out hb2
        have hgv : v1.heap.size < (World.alloc v1 (.cells #[.slice B b.length cb] 22)).heap.size := by simp
        obtain ⟨g10, hg0⟩ : ∃ g, g = v1.heap.size := ⟨_, rfl⟩
        rw [← hg0] at N hgv ⊢
        obtain ⟨v2, hv⟩ : ∃ x, x = World.alloc v1 (.cells #[.slice B b.length cb] 22) := ⟨_, rfl⟩
        rw [← hv] at N hE hgv ⊢
        clear hv
        clear hg0 hgv
        (try replace F4 := F4.ext hE)
        (try replace F6 := F6.ext hE)
        (try replace F7 := F7.ext hE)
        (try replace F7lt := Nat.lt_of_lt_of_le F7lt hE.size)
        (try replace F8 := F8.ext hE)
        (try replace F10 := F10.ext hE)
        replace FA := FA.ext hE
        replace FE := FE.tr hE
        clear hE
        have F10 := N
        clear N
        refine hK.out _ _ FA (fun _ => ?_)
        clear hK K
        try simp only [Act.put, List.setIfInBounds_toArray, List.set_cons_zero, List.set_cons_succ]
        refine wpAnyH_ready (rs := [4]) (by kernel_rfl) (by simp) ?_
        refine AllReadyH.cons rfl (fun K hK => ?_) AllReadyH.nil
        go_simp
        change K _ (World.alloc v2 (.cells #[] 5))
        have hE : Ext v2 (World.alloc v2 (.cells #[] 5)) := Ext.alloc _ _
        have N : OwnB (World.alloc v2 (.cells #[] 5)) 5 w5.heap.size (some ⟨v2.heap.size, 0, none⟩) 0 [] := OwnB.lit (w := v2) [] #[] rfl FE.size (by simp [maxLen])
        have hgv : v2.heap.size < (World.alloc v2 (.cells #[] 5)).heap.size := by simp
        obtain ⟨g4, hg0⟩ : ∃ g, g = v2.heap.size := ⟨_, rfl⟩
        rw [← hg0] at N hgv ⊢
        obtain ⟨v3, hv⟩ : ∃ x, x = World.alloc v2 (.cells #[] 5) := ⟨_, rfl⟩
        rw [← hv] at N hE hgv ⊢
        clear hv
        have hne : g7 ≠ g4 := by omega
        clear hg0 hgv
        (try replace F4 := F4.ext hE)
        (try replace F6 := F6.ext hE)
        (try replace F7 := F7.ext hE)
        (try replace F7lt := Nat.lt_of_lt_of_le F7lt hE.size)
        (try replace F8 := F8.ext hE)
        (try replace F10 := F10.ext hE)
        replace FA := FA.ext hE
        replace FE := FE.tr hE
        clear hE
        have F4 := N
        clear N
        refine hK.out _ _ FA (fun _ => ?_)
        clear hK K
        try simp only [Act.put, List.setIfInBounds_toArray, List.set_cons_zero, List.set_cons_succ]
        refine wpAnyH_ready (rs := [6]) (by kernel_rfl) (by simp) ?_
        refine AllReadyH.cons rfl (fun K hK => ?_) AllReadyH.nil
        refine step_append_guard _ (by kernel_rfl) (.tmp 36) (.tmp 37) 22 rfl w5.heap.size 5 i0 Tryd.underlying22 hi0 hz0 hz1 hz2 (some ⟨g4, 0, none⟩) 0 [] 0 rfl rfl F4 _ A n c key rfl HKL.out (HK5.out.ext FE) (by omega) FE.size ?_
        intro A6 c6 v4 F6 hG
        rw [List.nil_append] at F6
        rw [Nat.zero_add]
        replace F7 := F7.grown hG (fun g t hg e => hne (by simp [Value.ownBlock] at e; omega))
        replace F7lt := Nat.lt_of_lt_of_le F7lt hG.size
        replace F10 := F10.own F4 hG
        replace FA : Arr v4 gw 26 .u8 32 C := grown_get hG FA (F4.notAt FA (by decide))
        replace FE := grown_new FE hG F4.ge
        clear F4 hG
        refine hK.out _ _ FA (fun _ => ?_)
        clear hK K
        try simp only [Act.put, List.setIfInBounds_toArray, List.set_cons_zero, List.set_cons_succ]
        refine wpAnyH_ready (rs := [8]) (by kernel_rfl) (by simp) ?_
        refine AllReadyH.cons rfl (fun K hK => ?_) AllReadyH.nil
        have hown6 := F6.ge
        have hnot6 := F6.notAt FA (by decide)
        rw [HKL.out] at hown6 hnot6
        refine step_append_guard _ (by kernel_rfl) (.tmp 38) (.tmp 39) 22 rfl w5.heap.size 5 i0 Tryd.underlying22 hi0 hz0 hz1 hz2 A6 c6 key n rfl HKL.out F6 _ (some ⟨g7, 0, none⟩) 1 1 [0] rfl rfl F7 (by omega) FE.size ?_
        intro A8 c8 v5 F8 hG
        replace F10 := F10.own F6 (by rw [HKL.out]; exact hG)
        replace FA : Arr v5 gw 26 .u8 32 C := grown_get hG FA hnot6
        replace FE := grown_new FE hG hown6
        clear F6 F7 F7lt hG hown6 hnot6
        refine hK.out _ _ FA (fun _ => ?_)
        clear hK K
        try simp only [Act.put, List.setIfInBounds_toArray, List.set_cons_zero, List.set_cons_succ]
        refine wpAnyH_ready (rs := [11]) (by kernel_rfl) (by simp) ?_
        refine AllReadyH.cons rfl (fun K hK => ?_) AllReadyH.nil
        go_simp
        have hs := macSum_c A8 c8 (key ++ [0]) _ (some ⟨g10, 0, none⟩) 1 [b] _ _ v5 (HT.out.ext (HX5.out.tr FE)) F8.rb (by rw [List.length_append, HKL.out]; simp; omega) F8.le.1 (by have := F8.le.2; unfold maxLen at this; omega) F10 (by rw [fla_one]; omega) (by simp)
        rw [fla_one, HKZ.out, List.length_append, HKL.out] at hs
        refine hs.mono ?_
        rintro e v6 ⟨rfl, hE⟩
        clear hs F8 F10
        replace FA := FA.ext hE
        replace FE := FE.tr hE
        clear hE
        refine hK.out _ _ FA (fun _ => ?_)
        clear hK K
        try simp only [Act.put, List.setIfInBounds_toArray, List.set_cons_zero, List.set_cons_succ]
        refine wpAnyH_ready (rs := [13]) (by kernel_rfl) (by simp) ?_
        refine AllReadyH.cons rfl (fun K hK => ?_) AllReadyH.nil
        refine step_eql_tab (by kernel_rfl) 26 26 (.tmp 43) (.tmp 44) rfl .u8 32 C C rfl rfl 5 Tryd.underlying26 Tryd.underlying5 size_u8 cells_u8 noGuard_dig (fun _ _ => rfl) ?_
        refine hK.out _ _ FA (fun _ => ?_)
        clear hK K
        try simp only [Act.put, List.setIfInBounds_toArray, List.set_cons_zero, List.set_cons_succ]
        refine wpAnyH_ready (rs := [14]) (by kernel_rfl) (by simp) ?_
        refine AllReadyH.cons rfl (fun K hK => ?_) AllReadyH.nil
        go_simp
        refine hK.out _ _ FA (fun _ => ?_)
        clear hK K
        try simp only [Act.put, List.setIfInBounds_toArray, List.set_cons_zero, List.set_cons_succ]
        refine wpAnyH_ready (rs := [15]) (by kernel_rfl) (by simp) ?_
        refine AllReadyH.cons rfl (fun K hK => ?_) AllReadyH.nil
        go_simp
        refine hK.out _ _ FA (fun _ => ?_)
        clear hK K
        try simp only [Act.put, List.setIfInBounds_toArray, List.set_cons_zero, List.set_cons_succ]
        refine wpAnyH_done (by kernel_rfl) ?_ _
        exact ⟨rfl, rfl, rfl, HX5.out.tr FE⟩
    · skip
      go_simp
      change K _ (World.alloc v0 (.cells #[.slice B b.length cb] 22))
      have hE : Ext v0 (World.alloc v0 (.cells #[.slice B b.length cb] 22)) := Ext.alloc _ _
      have N : RBC (World.alloc v0 (.cells #[.slice B b.length cb] 22)) (fun _ t => t = 22) (fun g _ => g < w5.heap.size) (some ⟨v0.heap.size, 0, none⟩) [b] := rbc_lit1 v0 22 (HB5.out.ext FE) HB1.out hb2
      have hgv : v0.heap.size < (World.alloc v0 (.cells #[.slice B b.length cb] 22)).heap.size := by simp
      obtain ⟨g10, hg0⟩ : ∃ g, g = v0.heap.size := ⟨_, rfl⟩
      rw [← hg0] at N hgv ⊢
      obtain ⟨v1, hv⟩ : ∃ x, x = World.alloc v0 (.cells #[.slice B b.length cb] 22) := ⟨_, rfl⟩
      rw [← hv] at N hE hgv ⊢
      clear hv
      clear hg0 hgv
      (try replace F4 := F4.ext hE)
      (try replace F6 := F6.ext hE)
      (try replace F7 := F7.ext hE)
      (try replace F7lt := Nat.lt_of_lt_of_le F7lt hE.size)
      (try replace F8 := F8.ext hE)
      (try replace F10 := F10.ext hE)
      replace FA := FA.ext hE
      replace FE := FE.tr hE
      clear hE
      have F10 := N
      clear N
      refine hK.out _ _ FA (fun _ => ?_)
      clear hK K
      try simp only [Act.put, List.setIfInBounds_toArray, List.set_cons_zero, List.set_cons_succ]
      refine wpAnyH_ready (rs := [4, 7]) (by kernel_rfl) (by simp) ?_
      refine AllReadyH.cons rfl (fun K hK => ?_) (AllReadyH.cons rfl (fun K hK => ?_) AllReadyH.nil)
      · skip
        go_simp
        change K _ (World.alloc v1 (.cells #[] 5))
        have hE : Ext v1 (World.alloc v1 (.cells #[] 5)) := Ext.alloc _ _
        have N : OwnB (World.alloc v1 (.cells #[] 5)) 5 w5.heap.size (some ⟨v1.heap.size, 0, none⟩) 0 [] := OwnB.lit (w := v1) [] #[] rfl FE.size (by simp [maxLen])
        have hgv : v1.heap.size < (World.alloc v1 (.cells #[] 5)).heap.size := by simp
        obtain ⟨g4, hg0⟩ : ∃ g, g = v1.heap.size := ⟨_, rfl⟩
        rw [← hg0] at N hgv ⊢
        obtain ⟨v2, hv⟩ : ∃ x, x = World.alloc v1 (.cells #[] 5) := ⟨_, rfl⟩
        rw [← hv] at N hE hgv ⊢
        clear hv
        clear hg0 hgv
        (try replace F4 := F4.ext hE)
        (try replace F6 := F6.ext hE)
        (try replace F7 := F7.ext hE)
        (try replace F7lt := Nat.lt_of_lt_of_le F7lt hE.size)
        (try replace F8 := F8.ext hE)
        (try replace F10 := F10.ext hE)
        replace FA := FA.ext hE
        replace FE := FE.tr hE
        clear hE
        have F4 := N
        clear N
        refine hK.out _ _ FA (fun _ => ?_)
        clear hK K
        try simp only [Act.put, List.setIfInBounds_toArray, List.set_cons_zero, List.set_cons_succ]
        refine wpAnyH_ready (rs := [6, 7]) (by kernel_rfl) (by simp) ?_
        refine AllReadyH.cons rfl (fun K hK => ?_) (AllReadyH.cons rfl (fun K hK => ?_) AllReadyH.nil)
        · skip
          refine step_append_guard _ (by kernel_rfl) (.tmp 36) (.tmp 37) 22 rfl w5.heap.size 5 i0 Tryd.underlying22 hi0 hz0 hz1 hz2 (some ⟨g4, 0, none⟩) 0 [] 0 rfl rfl F4 _ A n c key rfl HKL.out (HK5.out.ext FE) (by omega) FE.size ?_
          intro A6 c6 v3 F6 hG
          rw [List.nil_append] at F6
          rw [Nat.zero_add]
          replace F10 := F10.own F4 hG
          replace FA : Arr v3 gw 26 .u8 32 C := grown_get hG FA (F4.notAt FA (by decide))
          replace FE := grown_new FE hG F4.ge
          clear F4 hG
          refine hK.out _ _ FA (fun _ => ?_)
          clear hK K
          try simp only [Act.put, List.setIfInBounds_toArray, List.set_cons_zero, List.set_cons_succ]
          refine wpAnyH_ready (rs := [7]) (by kernel_rfl) (by simp) ?_
          refine AllReadyH.cons rfl (fun K hK => ?_) AllReadyH.nil
          go_simp
          change K _ (World.alloc v3 (.cells #[.int .u8 0] 5))
          have hE : Ext v3 (World.alloc v3 (.cells #[.int .u8 0] 5)) := Ext.alloc _ _
          have N : RB (World.alloc v3 (.cells #[.int .u8 0] 5)) (fun g _ => g = v3.heap.size) (some ⟨v3.heap.size, 0, none⟩) [0] := lit_at v3 [0] #[.int .u8 0] 5 rfl
          have hgv : v3.heap.size < (World.alloc v3 (.cells #[.int .u8 0] 5)).heap.size := by simp
          obtain ⟨g7, hg0⟩ : ∃ g, g = v3.heap.size := ⟨_, rfl⟩
          rw [← hg0] at N hgv ⊢
          obtain ⟨v4, hv⟩ : ∃ x, x = World.alloc v3 (.cells #[.int .u8 0] 5) := ⟨_, rfl⟩
          rw [← hv] at N hE hgv ⊢
          clear hv
          clear hg0
          (try replace F4 := F4.ext hE)
          (try replace F6 := F6.ext hE)
          (try replace F7 := F7.ext hE)
          (try replace F7lt := Nat.lt_of_lt_of_le F7lt hE.size)
          (try replace F8 := F8.ext hE)
          (try replace F10 := F10.ext hE)
          replace FA := FA.ext hE
          replace FE := FE.tr hE
          clear hE
          have F7 := N
          have F7lt := hgv
          clear N hgv
          refine hK.out _ _ FA (fun _ => ?_)
          clear hK K
          try simp only [Act.put, List.setIfInBounds_toArray, List.set_cons_zero, List.set_cons_succ]
          refine wpAnyH_ready (rs := [8]) (by kernel_rfl) (by simp) ?_
          refine AllReadyH.cons rfl (fun K hK => ?_) AllReadyH.nil
          have hown6 := F6.ge
          have hnot6 := F6.notAt FA (by decide)
          rw [HKL.out] at hown6 hnot6
          refine step_append_guard _ (by kernel_rfl) (.tmp 38) (.tmp 39) 22 rfl w5.heap.size 5 i0 Tryd.underlying22 hi0 hz0 hz1 hz2 A6 c6 key n rfl HKL.out F6 _ (some ⟨g7, 0, none⟩) 1 1 [0] rfl rfl F7 (by omega) FE.size ?_
          intro A8 c8 v5 F8 hG
          replace F10 := F10.own F6 (by rw [HKL.out]; exact hG)
          replace FA : Arr v5 gw 26 .u8 32 C := grown_get hG FA hnot6
          replace FE := grown_new FE hG hown6
          clear F6 F7 F7lt hG hown6 hnot6
          refine hK.out _ _ FA (fun _ => ?_)
          clear hK K
          try simp only [Act.put, List.setIfInBounds_toArray, List.set_cons_zero, List.set_cons_succ]
          refine wpAnyH_ready (rs := [11]) (by kernel_rfl) (by simp) ?_
          refine AllReadyH.cons rfl (fun K hK => ?_) AllReadyH.nil
          go_simp
          have hs := macSum_c A8 c8 (key ++ [0]) _ (some ⟨g10, 0, none⟩) 1 [b] _ _ v5 (HT.out.ext (HX5.out.tr FE)) F8.rb (by rw [List.length_append, HKL.out]; simp; omega) F8.le.1 (by have := F8.le.2; unfold maxLen at this; omega) F10 (by rw [fla_one]; omega) (by simp)
          rw [fla_one, HKZ.out, List.length_append, HKL.out] at hs
          refine hs.mono ?_
          rintro e v6 ⟨rfl, hE⟩
          clear hs F8 F10
          replace FA := FA.ext hE
          replace FE := FE.tr hE
          clear hE
          refine hK.out _ _ FA (fun _ => ?_)
          clear hK K
          try simp only [Act.put, List.setIfInBounds_toArray, List.set_cons_zero, List.set_cons_succ]
          refine wpAnyH_ready (rs := [13]) (by kernel_rfl) (by simp) ?_
          refine AllReadyH.cons rfl (fun K hK => ?_) AllReadyH.nil
          refine step_eql_tab (by kernel_rfl) 26 26 (.tmp 43) (.tmp 44) rfl .u8 32 C C rfl rfl 5 Tryd.underlying26 Tryd.underlying5 size_u8 cells_u8 noGuard_dig (fun _ _ => rfl) ?_
          refine hK.out _ _ FA (fun _ => ?_)
          clear hK K
          try simp only [Act.put, List.setIfInBounds_toArray, List.set_cons_zero, List.set_cons_succ]
          refine wpAnyH_ready (rs := [14]) (by kernel_rfl) (by simp) ?_
          refine AllReadyH.cons rfl (fun K hK => ?_) AllReadyH.nil
          go_simp
          refine hK.out _ _ FA (fun _ => ?_)
          clear hK K
          try simp only [Act.put, List.setIfInBounds_toArray, List.set_cons_zero, List.set_cons_succ]
          refine wpAnyH_ready (rs := [15]) (by kernel_rfl) (by simp) ?_
          refine AllReadyH.cons rfl (fun K hK => ?_) AllReadyH.nil
          go_simp
          refine hK.out _ _ FA (fun _ => ?_)
          clear hK K
          try simp only [Act.put, List.setIfInBounds_toArray, List.set_cons_zero, List.set_cons_succ]
          refine wpAnyH_done (by kernel_rfl) ?_ _
          exact ⟨rfl, rfl, rfl, HX5.out.tr FE⟩
        · skip
          go_simp
          change K _ (World.alloc v2 (.cells #[.int .u8 0] 5))
          have hE : Ext v2 (World.alloc v2 (.cells #[.int .u8 0] 5)) := Ext.alloc _ _
          have N : RB (World.alloc v2 (.cells #[.int .u8 0] 5)) (fun g _ => g = v2.heap.size) (some ⟨v2.heap.size, 0, none⟩) [0] := lit_at v2 [0] #[.int .u8 0] 5 rfl
          have hgv : v2.heap.size < (World.alloc v2 (.cells #[.int .u8 0] 5)).heap.size := by simp
          obtain ⟨g7, hg0⟩ : ∃ g, g = v2.heap.size := ⟨_, rfl⟩
          rw [← hg0] at N hgv ⊢
          obtain ⟨v3, hv⟩ : ∃ x, x = World.alloc v2 (.cells #[.int .u8 0] 5) := ⟨_, rfl⟩
          rw [← hv] at N hE hgv ⊢
          clear hv
          have hne : g7 ≠ g4 := by have := F4.at_.2; omega
          clear hg0
          (try replace F4 := F4.ext hE)
          (try replace F6 := F6.ext hE)
          (try replace F7 := F7.ext hE)
          (try replace F7lt := Nat.lt_of_lt_of_le F7lt hE.size)
          (try replace F8 := F8.ext hE)
          (try replace F10 := F10.ext hE)
          replace FA := FA.ext hE
          replace FE := FE.tr hE
          clear hE
          have F7 := N
          have F7lt := hgv
          clear N hgv
          refine hK.out _ _ FA (fun _ => ?_)
          clear hK K
          try simp only [Act.put, List.setIfInBounds_toArray, List.set_cons_zero, List.set_cons_succ]
          refine wpAnyH_ready (rs := [6]) (by kernel_rfl) (by simp) ?_
          refine AllReadyH.cons rfl (fun K hK => ?_) AllReadyH.nil
          refine step_append_guard _ (by kernel_rfl) (.tmp 36) (.tmp 37) 22 rfl w5.heap.size 5 i0 Tryd.underlying22 hi0 hz0 hz1 hz2 (some ⟨g4, 0, none⟩) 0 [] 0 rfl rfl F4 _ A n c key rfl HKL.out (HK5.out.ext FE) (by omega) FE.size ?_
          intro A6 c6 v4 F6 hG
          rw [List.nil_append] at F6
          rw [Nat.zero_add]
          replace F7 := F7.grown hG (fun g t hg e => hne (by simp [Value.ownBlock] at e; omega))
          replace F7lt := Nat.lt_of_lt_of_le F7lt hG.size
          replace F10 := F10.own F4 hG
          replace FA : Arr v4 gw 26 .u8 32 C := grown_get hG FA (F4.notAt FA (by decide))
          replace FE := grown_new FE hG F4.ge
          clear F4 hG
          refine hK.out _ _ FA (fun _ => ?_)
          clear hK K
          try simp only [Act.put, List.setIfInBounds_toArray, List.set_cons_zero, List.set_cons_succ]
          refine wpAnyH_ready (rs := [8]) (by kernel_rfl) (by simp) ?_
          refine AllReadyH.cons rfl (fun K hK => ?_) AllReadyH.nil
          have hown6 := F6.ge
          have hnot6 := F6.notAt FA (by decide)
          rw [HKL.out] at hown6 hnot6
          refine step_append_guard _ (by kernel_rfl) (.tmp 38) (.tmp 39) 22 rfl w5.heap.size 5 i0 Tryd.underlying22 hi0 hz0 hz1 hz2 A6 c6 key n rfl HKL.out F6 _ (some ⟨g7, 0, none⟩) 1 1 [0] rfl rfl F7 (by omega) FE.size ?_
          intro A8 c8 v5 F8 hG
          replace F10 := F10.own F6 (by rw [HKL.out]; exact hG)
          replace FA : Arr v5 gw 26 .u8 32 C := grown_get hG FA hnot6
          replace FE := grown_new FE hG hown6
          clear F6 F7 F7lt hG hown6 hnot6
          refine hK.out _ _ FA (fun _ => ?_)
          clear hK K
          try simp only [Act.put, List.setIfInBounds_toArray, List.set_cons_zero, List.set_cons_succ]
          refine wpAnyH_ready (rs := [11]) (by kernel_rfl) (by simp) ?_
          refine AllReadyH.cons rfl (fun K hK => ?_) AllReadyH.nil
          go_simp
          have hs := macSum_c A8 c8 (key ++ [0]) _ (some ⟨g10, 0, none⟩) 1 [b] _ _ v5 (HT.out.ext (HX5.out.tr FE)) F8.rb (by rw [List.length_append, HKL.out]; simp; omega) F8.le.1 (by have := F8.le.2; unfold maxLen at this; omega) F10 (by rw [fla_one]; omega) (by simp)
          rw [fla_one, HKZ.out, List.length_append, HKL.out] at hs
          refine hs.mono ?_
          rintro e v6 ⟨rfl, hE⟩
          clear hs F8 F10
          replace FA := FA.ext hE
          replace FE := FE.tr hE
          clear hE
          refine hK.out _ _ FA (fun _ => ?_)
          clear hK K
          try simp only [Act.put, List.setIfInBounds_toArray, List.set_cons_zero, List.set_cons_succ]
          refine wpAnyH_ready (rs := [13]) (by kernel_rfl) (by simp) ?_
          refine AllReadyH.cons rfl (fun K hK => ?_) AllReadyH.nil
          refine step_eql_tab (by kernel_rfl) 26 26 (.tmp 43) (.tmp 44) rfl .u8 32 C C rfl rfl 5 Tryd.underlying26 Tryd.underlying5 size_u8 cells_u8 noGuard_dig (fun _ _ => rfl) ?_
          refine hK.out _ _ FA (fun _ => ?_)
          clear hK K
          try simp only [Act.put, List.setIfInBounds_toArray, List.set_cons_zero, List.set_cons_succ]
          refine wpAnyH_ready (rs := [14]) (by kernel_rfl) (by simp) ?_
          refine AllReadyH.cons rfl (fun K hK => ?_) AllReadyH.nil
          go_simp
          refine hK.out _ _ FA (fun _ => ?_)
          clear hK K
          try simp only [Act.put, List.setIfInBounds_toArray, List.set_cons_zero, List.set_cons_succ]
          refine wpAnyH_ready (rs := [15]) (by kernel_rfl) (by simp) ?_
          refine AllReadyH.cons rfl (fun K hK => ?_) AllReadyH.nil
          go_simp
          refine hK.out _ _ FA (fun _ => ?_)
          clear hK K
          try simp only [Act.put, List.setIfInBounds_toArray, List.set_cons_zero, List.set_cons_succ]
          refine wpAnyH_done (by kernel_rfl) ?_ _
          exact ⟨rfl, rfl, rfl, HX5.out.tr FE⟩
      · skip
        go_simp
        change K _ (World.alloc v1 (.cells #[.int .u8 0] 5))
        have hE : Ext v1 (World.alloc v1 (.cells #[.int .u8 0] 5)) := Ext.alloc _ _
        have N : RB (World.alloc v1 (.cells #[.int .u8 0] 5)) (fun g _ => g = v1.heap.size) (some ⟨v1.heap.size, 0, none⟩) [0] := lit_at v1 [0] #[.int .u8 0] 5 rfl
        have hgv : v1.heap.size < (World.alloc v1 (.cells #[.int .u8 0] 5)).heap.size := by simp
        obtain ⟨g7, hg0⟩ : ∃ g, g = v1.heap.size := ⟨_, rfl⟩
        rw [← hg0] at N hgv ⊢
        obtain ⟨v2, hv⟩ : ∃ x, x = World.alloc v1 (.cells #[.int .u8 0] 5) := ⟨_, rfl⟩
        rw [← hv] at N hE hgv ⊢
        clear hv
        clear hg0
        (try replace F4 := F4.ext hE)
        (try replace F6 := F6.ext hE)
        (try replace F7 := F7.ext hE)
        (try replace F7lt := Nat.lt_of_lt_of_le F7lt hE.size)
        (try replace F8 := F8.ext hE)
        (try replace F10 := F10.ext hE)
        replace FA := FA.ext hE
        replace FE := FE.tr hE
        clear hE
        have F7 := N
        have F7lt := hgv
        clear N hgv
        refine hK.out _ _ FA (fun _ => ?_)
        clear hK K
        try simp only [Act.put, List.setIfInBounds_toArray, List.set_cons_zero, List.set_cons_succ]
        refine wpAnyH_ready (rs := [4]) (by kernel_rfl) (by simp) ?_
        refine AllReadyH.cons rfl (fun K hK => ?_) AllReadyH.nil
        go_simp
        change K _ (World.alloc v2 (.cells #[] 5))
        have hE : Ext v2 (World.alloc v2 (.cells #[] 5)) := Ext.alloc _ _
        have N : OwnB (World.alloc v2 (.cells #[] 5)) 5 w5.heap.size (some ⟨v2.heap.size, 0, none⟩) 0 [] := OwnB.lit (w := v2) [] #[] rfl FE.size (by simp [maxLen])
        have hgv : v2.heap.size < (World.alloc v2 (.cells #[] 5)).heap.size := by simp
        obtain ⟨g4, hg0⟩ : ∃ g, g = v2.heap.size := ⟨_, rfl⟩
        rw [← hg0] at N hgv ⊢
        obtain ⟨v3, hv⟩ : ∃ x, x = World.alloc v2 (.cells #[] 5) := ⟨_, rfl⟩
        rw [← hv] at N hE hgv ⊢
        clear hv
        have hne : g7 ≠ g4 := by omega
        clear hg0 hgv
        (try replace F4 := F4.ext hE)
        (try replace F6 := F6.ext hE)
        (try replace F7 := F7.ext hE)
        (try replace F7lt := Nat.lt_of_lt_of_le F7lt hE.size)
        (try replace F8 := F8.ext hE)
        (try replace F10 := F10.ext hE)
        replace FA := FA.ext hE
        replace FE := FE.tr hE
        clear hE
        have F4 := N
        clear N
        refine hK.out _ _ FA (fun _ => ?_)
        clear hK K
        try simp only [Act.put, List.setIfInBounds_toArray, List.set_cons_zero, List.set_cons_succ]
        refine wpAnyH_ready (rs := [6]) (by kernel_rfl) (by simp) ?_
        refine AllReadyH.cons rfl (fun K hK => ?_) AllReadyH.nil
        refine step_append_guard _ (by kernel_rfl) (.tmp 36) (.tmp 37) 22 rfl w5.heap.size 5 i0 Tryd.underlying22 hi0 hz0 hz1 hz2 (some ⟨g4, 0, none⟩) 0 [] 0 rfl rfl F4 _ A n c key rfl HKL.out (HK5.out.ext FE) (by omega) FE.size ?_
        intro A6 c6 v4 F6 hG
        rw [List.nil_append] at F6
        rw [Nat.zero_add]
        replace F7 := F7.grown hG (fun g t hg e => hne (by simp [Value.ownBlock] at e; omega))
        replace F7lt := Nat.lt_of_lt_of_le F7lt hG.size
        replace F10 := F10.own F4 hG
        replace FA : Arr v4 gw 26 .u8 32 C := grown_get hG FA (F4.notAt FA (by decide))
        replace FE := grown_new FE hG F4.ge
        clear F4 hG
        refine hK.out _ _ FA (fun _ => ?_)
        clear hK K
        try simp only [Act.put, List.setIfInBounds_toArray, List.set_cons_zero, List.set_cons_succ]
        refine wpAnyH_ready (rs := [8]) (by kernel_rfl) (by simp) ?_
        refine AllReadyH.cons rfl (fun K hK => ?_) AllReadyH.nil
        have hown6 := F6.ge
        have hnot6 := F6.notAt FA (by decide)
        rw [HKL.out] at hown6 hnot6
        refine step_append_guard _ (by kernel_rfl) (.tmp 38) (.tmp 39) 22 rfl w5.heap.size 5 i0 Tryd.underlying22 hi0 hz0 hz1 hz2 A6 c6 key n rfl HKL.out F6 _ (some ⟨g7, 0, none⟩) 1 1 [0] rfl rfl F7 (by omega) FE.size ?_
        intro A8 c8 v5 F8 hG
        replace F10 := F10.own F6 (by rw [HKL.out]; exact hG)
        replace FA : Arr v5 gw 26 .u8 32 C := grown_get hG FA hnot6
        replace FE := grown_new FE hG hown6
        clear F6 F7 F7lt hG hown6 hnot6
        refine hK.out _ _ FA (fun _ => ?_)
        clear hK K
        try simp only [Act.put, List.setIfInBounds_toArray, List.set_cons_zero, List.set_cons_succ]
        refine wpAnyH_ready (rs := [11]) (by kernel_rfl) (by simp) ?_
        refine AllReadyH.cons rfl (fun K hK => ?_) AllReadyH.nil
        go_simp
        have hs := macSum_c A8 c8 (key ++ [0]) _ (some ⟨g10, 0, none⟩) 1 [b] _ _ v5 (HT.out.ext (HX5.out.tr FE)) F8.rb (by rw [List.length_append, HKL.out]; simp; omega) F8.le.1 (by have := F8.le.2; unfold maxLen at this; omega) F10 (by rw [fla_one]; omega) (by simp)
        rw [fla_one, HKZ.out, List.length_append, HKL.out] at hs
        refine hs.mono ?_
        rintro e v6 ⟨rfl, hE⟩
        clear hs F8 F10
        replace FA := FA.ext hE
        replace FE := FE.tr hE
        clear hE
        refine hK.out _ _ FA (fun _ => ?_)
        clear hK K
        try simp only [Act.put, List.setIfInBounds_toArray, List.set_cons_zero, List.set_cons_succ]
        refine wpAnyH_ready (rs := [13]) (by kernel_rfl) (by simp) ?_
        refine AllReadyH.cons rfl (fun K hK => ?_) AllReadyH.nil
        refine step_eql_tab (by kernel_rfl) 26 26 (.tmp 43) (.tmp 44) rfl .u8 32 C C rfl rfl 5 Tryd.underlying26 Tryd.underlying5 size_u8 cells_u8 noGuard_dig (fun _ _ => rfl) ?_
        refine hK.out _ _ FA (fun _ => ?_)
        clear hK K
        try simp only [Act.put, List.setIfInBounds_toArray, List.set_cons_zero, List.set_cons_succ]
        refine wpAnyH_ready (rs := [14]) (by kernel_rfl) (by simp) ?_
        refine AllReadyH.cons rfl (fun K hK => ?_) AllReadyH.nil
        go_simp
        refine hK.out _ _ FA (fun _ => ?_)
        clear hK K
        try simp only [Act.put, List.setIfInBounds_toArray, List.set_cons_zero, List.set_cons_succ]
        refine wpAnyH_ready (rs := [15]) (by kernel_rfl) (by simp) ?_
        refine AllReadyH.cons rfl (fun K hK => ?_) AllReadyH.nil
        go_simp
        refine hK.out _ _ FA (fun _ => ?_)
        clear hK K
        try simp only [Act.put, List.setIfInBounds_toArray, List.set_cons_zero, List.set_cons_succ]
        refine wpAnyH_done (by kernel_rfl) ?_ _
        exact ⟨rfl, rfl, rfl, HX5.out.tr FE⟩

theorem macKeys_walk (x : Int) (m : Int) (B : Option Addr) (bl cb : Nat) (zb : List Int) (w : World) (hx : (Lit.int .u64 x).wf = true) (hm : (Lit.int .u8 m).wf = true) (hb : IsRow .u8 w B bl cb zb) (ht : Tab w) :
    Calls Tryd.prog 7 #[.int .u64 x, .int .u8 m, .slice B bl cb] w fun e w' => e = .returned (.bool true) ∧ Ext w w' := by
  obtain ⟨b, rfl, hb1, hb2, hbr⟩ := row_bytes hb
  obtain ⟨x0, x1⟩ := bd_u64 hx
  obtain ⟨m0, m1⟩ := bd_u8 hm
  obtain ⟨x, rfl⟩ := Int.eq_ofNat_of_zero_le x0
  obtain ⟨m, rfl⟩ := Int.eq_ofNat_of_zero_le m0
  unfold maxLen at hb2
  by_cases h1 : 300 < b.length
  · have t1 : decide ((300 : Int) < (b.length : Int)) = true := decide_eq_true (by omega)
    have HT := Lib.hid ht
    clear ht hb hbr hx hm
    go_enter Tryd.func7, Tryd.ntmps7
    go_wp2_with fail
    refine (awake_c _ HT.out).mono ?_
    rintro e w1 ⟨rfl, hx1⟩
    go_wp2_with fail
    refine (awake_c _ (HT.out.ext hx1)).mono ?_
    rintro e w2 ⟨rfl, hx2⟩
    go_wp2_with fail
    go_ret
    exact ⟨rfl, hx1.tr hx2⟩
  · exact keys_main x m (by omega) (by omega) B cb b w hbr hb1 (by omega) (by omega) ht
end Go.Proofs.YtdbmkkjpdhnllaaDoor
