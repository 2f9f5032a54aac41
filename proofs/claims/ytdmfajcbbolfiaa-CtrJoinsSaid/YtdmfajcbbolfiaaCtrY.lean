/-
  The law CtrJoins.
-/
import Derived.Test.YtdmfajcbbolfiaaCtrW
namespace Go.Proofs.Ytdmfajcbbolfiaa
open Go.RowKit
set_option linter.unusedVariables false
set_option linter.unusedSimpArgs false

/-- in a region that draws its order: an operation that yields one value in every world is carried out first -/
theorem wpAnyH_take_val {P : Program} {md : Region.Mode} {ops : Array Oper} {Q : Exit → Act → World → Prop} {S : World → Prop} {fuel : Nat} {listed : Array Bool} {a : Act} {w : World} (i : Nat) {oi : Oper} (hi : ops[i]? = some oi)
    (hs : Region.noSelect ops = true) (hf : Region.free md ops listed i = true) (hr : (Region.ready md ops listed).contains i = true) (hQ : ∀ c a v w, Q (.panic c) (a.put oi.dst v) w → Q (.panic c) a w)
    (hw : Region.wanted oi (yielded ops a.tmps) = true) (v : Value) (hv : ∀ w, (execOp a.eval oi).run P w = .ok (.value v) w) (hSw : S w)
    (h : wpAnyH P md ops Q S fuel (listed.setIfInBounds i true) (a.put oi.dst v) w) : wpAnyH P md ops Q S (fuel + 1) listed a w :=
  wpAnyH_take (v := v) hi hs hf hr (fun c a w => hQ c a _ w) (.inl ⟨hw, fun w _ => hv w⟩) hSw h
/-- two strings as a slice of slices -/
theorem rbs_two {w : World} {g : Nat} {T : Nat → TypeId → Prop} {A1 A2 : Option Addr} {c1 c2 n m : Nat} {l1 l2 : List UInt8} {t : TypeId} (hg : w.heap[g]? = some (.cells #[.slice A1 n c1, .slice A2 m c2] t (0, 0))) (hn : l1.length = n) (hm : l2.length = m) (h1 : RB w T A1 l1) (h2 : RB w T A2 l2) :
    RBs w (fun _ _ => True) T (some ⟨g, 0, none⟩) [l1, l2] := by
  intro _
  refine ⟨g, 0, _, _, _, rfl, hg, trivial, fun j l hj => ?_⟩
  match j, hj with
  | 0, hj =>
    simp at hj
    subst hj
    exact ⟨A1, c1, by rw [hn]; rfl, h1⟩
  | 1, hj =>
    simp at hj
    subst hj
    exact ⟨A2, c2, by rw [hm]; rfl, h2⟩
set_option maxRecDepth 100000 in
set_option maxHeartbeats 4000000 in
theorem ctrJoins_walk (key nonce : Nat → Nat) (a b c : Int) (w : World) (hk' : ∀ i, i < 16 → (Lit.int .u8 (key i : Nat)).wf = true) (hn' : ∀ i, i < 8 → (Lit.int .u8 (nonce i : Nat)).wf = true) (ha : (Lit.int .u16 a).wf = true) (hb : (Lit.int .u8 b).wf = true) (hc : (Lit.int .u8 c).wf = true) :
    Calls Try.prog 7 #[.agg (tabV .u8 16 key), .agg (tabV .u8 8 nonce), .int .u16 a, .int .u8 b, .int .u8 c] w fun e w' => e = .returned (.bool true) ∧ Ext w w' := by
  obtain ⟨a0, a1⟩ := bd_u16 ha
  obtain ⟨b0, b1⟩ := bd_u8 hb
  obtain ⟨c0, c1⟩ := bd_u8 hc
  obtain ⟨p, rfl⟩ := Int.eq_ofNat_of_zero_le a0
  obtain ⟨n, rfl⟩ := Int.eq_ofNat_of_zero_le b0
  obtain ⟨m, rfl⟩ := Int.eq_ofNat_of_zero_le c0
  have HK := Lib.hid (byt_wf hk')
  have HN := Lib.hid (byt8_wf hn')
  obtain ⟨h0, h1⟩ := two_new w (.cells (tabV .u8 16 key) 22) (.cells (tabV .u8 8 nonce) 23)
  have HX := Lib.hid ((Ext.alloc w (.cells (tabV .u8 16 key) 22)).tr (Ext.alloc _ (.cells (tabV .u8 8 nonce) 23)))
  have HH := Lib.hid (show HeldC w.heap.size (w.heap.size + 1) key nonce _ from ⟨h0, h1⟩)
  clear h0 h1 hk' hn' ha hb hc a0 b0 c0
  go_enter Try.func7, Try.ntmps7
  go_wp2_with fail
  refine (awake_c _).mono ?_
  rintro e w1 ⟨rfl, hx1⟩
  have HX1 := Lib.hid (HX.out.tr hx1)
  have HH1 := Lib.hid (HH.out.ext hx1)
  clear hx1 HX HH
  have q1 : IntKind.i64.wrap ((p : Int) + (n : Int)) = (p : Int) + (n : Int) := IntWalk.i64_in _ (by omega)
  have q2 : IntKind.i64.wrap ((n : Int) + (m : Int)) = (n : Int) + (m : Int) := IntWalk.i64_in _ (by omega)
  go_wp2_with (first
    | refine wpList_load_arr rfl 22 (.tmp 5) rfl w.heap.size rfl 22 .u8 16 key _ HH1.out.1 Try.underlying22 size_bk ?_
    | refine wpList_load_arr rfl 23 (.tmp 6) rfl (w.heap.size + 1) rfl 23 .u8 8 nonce _ HH1.out.2 Try.underlying23 size_nc ?_)
  refine (cstream_c key nonce HK.out HN.out p n (by omega) (by omega) _).mono ?_
  rintro e w2 ⟨A1, k1, rfl, ho1, hx2⟩
  have HO1 := Lib.hid ho1
  have HX2 := Lib.hid (HX1.out.tr hx2)
  have HH2 := Lib.hid (HH1.out.ext hx2)
  clear ho1 hx2 HX1 HH1
  have HS2 := Lib.hid (cstream_c key nonce HK.out HN.out (p + n) m (by omega) (by omega))
  go_wp2_with (first
    | refine wpList_load_arr rfl 22 (.tmp 5) rfl w.heap.size rfl 22 .u8 16 key _ HH2.out.1 Try.underlying22 size_bk ?_
    | refine wpList_load_arr rfl 23 (.tmp 6) rfl (w.heap.size + 1) rfl 23 .u8 8 nonce _ HH2.out.2 Try.underlying23 size_nc ?_)
  have hs2 := HS2.out w2
  rw [Int.natCast_add] at hs2
  refine hs2.mono ?_
  rintro e w3 ⟨A2, k2, rfl, ho2, hx3⟩
  have HO1 := Lib.hid (HO1.out.ext hx3)
  have HO2 := Lib.hid ho2
  have HX3 := Lib.hid (HX2.out.tr hx3)
  have HH3 := Lib.hid (HH2.out.ext hx3)
  clear ho2 hx3 HX2 HH2 hs2 HS2
  go_wp2_with fail
  have qp : IntKind.i64.wrap (p : Int) = (p : Int) := IntWalk.i64_in _ (by omega)
  have qn : IntKind.i64.wrap (n : Int) = (n : Int) := IntWalk.i64_in _ (by omega)
  have qm : IntKind.i64.wrap (m : Int) = (m : Int) := IntWalk.i64_in _ (by omega)
  refine wp_region_held_drew (S := HeldC w.heap.size (w.heap.size + 1) key nonce) (by kernel_rfl) (HH3.out.ext (Ext.drew w3)) (fun hHeld => ?_)
  refine wpAnyH_take_move 0 rfl (by kernel_rfl) (by kernel_rfl) (by kernel_rfl) (fun _ _ _ _ h => h) (by kernel_rfl) (.tmp 11) rfl (.slice A1 n k1) rfl hHeld ?_
  refine wpAnyH_take_move 1 rfl (by kernel_rfl) (by kernel_rfl) (by kernel_rfl) (fun _ _ _ _ h => h) (by kernel_rfl) (.tmp 12) rfl (.slice A2 m k2) rfl hHeld ?_
  refine wpAnyH_take_arr 4 rfl (by kernel_rfl) (by kernel_rfl) (by kernel_rfl) (fun _ _ _ _ h => h) (by kernel_rfl) 22 (.tmp 5) rfl w.heap.size 0 rfl .u8 16 key _ (fun w hw => rangeAt_arr hw.1) Try.underlying22 size_bk hHeld ?_
  refine wpAnyH_take_arr 5 rfl (by kernel_rfl) (by kernel_rfl) (by kernel_rfl) (fun _ _ _ _ h => h) (by kernel_rfl) 23 (.tmp 6) rfl (w.heap.size + 1) 0 rfl .u8 8 nonce _ (fun w hw => rangeAt_arr hw.2) Try.underlying23 size_nc hHeld ?_
  refine wpAnyH_take_move 6 rfl (by kernel_rfl) (by kernel_rfl) (by kernel_rfl) (fun _ _ _ _ h => h) (by kernel_rfl) (.tmp 2) rfl (.int .u16 (p : Nat)) rfl hHeld ?_
  refine wpAnyH_take_move 8 rfl (by kernel_rfl) (by kernel_rfl) (by kernel_rfl) (fun _ _ _ _ h => h) (by kernel_rfl) (.tmp 3) rfl (.int .u8 (n : Nat)) rfl hHeld ?_
  refine wpAnyH_take_move 10 rfl (by kernel_rfl) (by kernel_rfl) (by kernel_rfl) (fun _ _ _ _ h => h) (by kernel_rfl) (.tmp 4) rfl (.int .u8 (m : Nat)) rfl hHeld ?_
  try simp only [Act.put, List.setIfInBounds_toArray, List.set_cons_zero, List.set_cons_succ]
  refine wpAnyH_take_val 7 rfl (by kernel_rfl) (by kernel_rfl) (by kernel_rfl) (fun _ _ _ _ h => h) (by kernel_rfl) (.int .i64 (p : Nat)) (fun W => ?_) hHeld ?_
  · go_simp
  refine wpAnyH_take_val 9 rfl (by kernel_rfl) (by kernel_rfl) (by kernel_rfl) (fun _ _ _ _ h => h) (by kernel_rfl) (.int .i64 (n : Nat)) (fun W => ?_) hHeld ?_
  · go_simp
  refine wpAnyH_take_val 11 rfl (by kernel_rfl) (by kernel_rfl) (by kernel_rfl) (fun _ _ _ _ h => h) (by kernel_rfl) (.int .i64 (m : Nat)) (fun W => ?_) hHeld ?_
  · go_simp
  try simp only [Act.put, List.setIfInBounds_toArray, List.set_cons_zero, List.set_cons_succ]
  refine wpAnyH_take_val 12 rfl (by kernel_rfl) (by kernel_rfl) (by kernel_rfl) (fun _ _ _ _ h => h) (by kernel_rfl) (.int .i64 ((n : Int) + (m : Int))) (fun W => ?_) hHeld ?_
  · go_simp
  try simp only [Act.put, List.setIfInBounds_toArray, List.set_cons_zero, List.set_cons_succ]
  refine wpAnyH_ready (rs := [2]) (by kernel_rfl) (by simp) ?_
  refine AllReadyH.cons rfl (fun K hK => ?_) AllReadyH.nil
  go_simp
  have hx5 := (Ext.alloc w3 (.cells #[.slice A1 n k1, .slice A2 m k2] 27)).tr (Ext.drew _)
  have HX5 := Lib.hid (HX3.out.tr hx5)
  have hr1 := (HO1.out.ext hx5).rb.more (S' := fun _ _ => True) (fun _ _ _ => trivial)
  have hr2 := (HO2.out.ext hx5).rb.more (S' := fun _ _ => True) (fun _ _ _ => trivial)
  have hnw : (w3.alloc (.cells #[.slice A1 n k1, .slice A2 m k2] 27)).drew.heap[w3.heap.size]? = some (.cells #[.slice A1 n k1, .slice A2 m k2] 27 (0, 0)) := (Ext.drew _).get (new_of w3 _)
  have HRR := Lib.hid (rbs_two hnw (strm_len key nonce p n) (strm_len key nonce (p + n) m) hr1 hr2)
  refine hK.out _ _ (HH3.out.ext hx5) (fun hHeld1 => ?_)
  clear hK K hx5 hr1 hr2 hnw
  try simp only [Act.put, List.setIfInBounds_toArray, List.set_cons_zero, List.set_cons_succ]
  refine wpAnyH_ready (rs := [3]) (by kernel_rfl) (by simp) ?_
  refine AllReadyH.cons rfl (fun K hK => ?_) AllReadyH.nil
  go_simp
  have hfl : fla [strm key nonce p n, strm key nonce (p + n) m] = strm key nonce p (n + m) := by rw [strm_add]; simp [fla]
  have hj := rjoin_c (some ⟨w3.heap.size, 0, none⟩) 2 [strm key nonce p n, strm key nonce (p + n) m] _ _ _ HRR.out (by rw [hfl, strm_len]; omega) (by simp)
  rw [hfl, strm_len] at hj
  refine hj.mono ?_
  rintro e v1 ⟨A3, k3, rfl, ho3, hx6⟩
  have HO3 := Lib.hid ho3
  have HX6 := Lib.hid (HX5.out.tr hx6)
  refine hK.out _ _ (hHeld1.ext hx6) (fun hHeld2 => ?_)
  clear hK K ho3 hx6 hj hfl HRR
  try simp only [Act.put, List.setIfInBounds_toArray, List.set_cons_zero, List.set_cons_succ]
  refine wpAnyH_ready (rs := [13]) (by kernel_rfl) (by simp) ?_
  refine AllReadyH.cons rfl (fun K hK => ?_) AllReadyH.nil
  go_simp
  have hs3 := cstream_c key nonce HK.out HN.out p (n + m) (by omega) (by omega) v1
  rw [Int.natCast_add] at hs3
  refine hs3.mono ?_
  rintro e v2 ⟨A4, k4, rfl, ho4, hx7⟩
  have HO3 := Lib.hid (HO3.out.ext hx7)
  have HO4 := Lib.hid ho4
  have HX7 := Lib.hid (HX6.out.tr hx7)
  refine hK.out _ _ (hHeld2.ext hx7) (fun hHeld3 => ?_)
  clear hK K ho4 hx7 hs3
  try simp only [Act.put, List.setIfInBounds_toArray, List.set_cons_zero, List.set_cons_succ]
  refine wpAnyH_ready (rs := [14]) (by kernel_rfl) (by simp) ?_
  refine AllReadyH.cons rfl (fun K hK => ?_) AllReadyH.nil
  go_simp
  have hsm := same_x A3 A4 (strm key nonce p (n + m)) (strm key nonce p (n + m)) k3 k4 _ _ _ HO3.out.rb HO4.out.rb (by rw [strm_len]; omega) rfl
  rw [strm_len] at hsm
  refine hsm.mono ?_
  rintro e v3 ⟨rfl, hx8⟩
  have HX8 := Lib.hid (HX7.out.tr hx8)
  refine hK.out _ _ (hHeld3.ext hx8) (fun hHeld4 => ?_)
  clear hK K hx8 hsm
  try simp only [Act.put, List.setIfInBounds_toArray, List.set_cons_zero, List.set_cons_succ]
  refine wpAnyH_ready (rs := [15]) (by kernel_rfl) (by simp) ?_
  refine AllReadyH.cons rfl (fun K hK => ?_) AllReadyH.nil
  go_simp
  refine hK.out _ _ hHeld4 (fun _ => ?_)
  clear hK K
  try simp only [Act.put, List.setIfInBounds_toArray, List.set_cons_zero, List.set_cons_succ]
  refine wpAnyH_done (by kernel_rfl) ?_ _
  go_wp2_with fail
  go_ret
  exact ⟨rfl, HX8.out⟩
end Go.Proofs.Ytdmfajcbbolfiaa
