/-
  ShaLimits: bytes at the limits of a block.
-/
import Derived.Test.YtphifnknbaebkaaDoorShaS
namespace Go.Proofs.YtphifnknbaebkaaDoor
open Go.RowKit
set_option linter.unusedSimpArgs false

/-- in a region that draws its order: a move is carried out first -/
theorem wpAnyH_take_move {P : Program} {md : Region.Mode} {ops : Array Oper} {Q : Exit → Act → World → Prop} {S : World → Prop} {fuel : Nat} {listed : Array Bool} {a : Act} {w : World} (i : Nat) {oi : Oper} (hi : ops[i]? = some oi)
    (hs : Region.noSelect ops = true) (hf : Region.free md ops listed i = true) (hr : (Region.ready md ops listed).contains i = true) (hQ : ∀ c a v w, Q (.panic c) (a.put oi.dst v) w → Q (.panic c) a w)
    (hw : Region.wanted oi (yielded ops a.tmps) = true) (x : Operand) (ho : oi.op = .move x) (v : Value) (hv : a.eval x = v) (hSw : S w)
    (h : wpAnyH P md ops Q S fuel (listed.setIfInBounds i true) (a.put oi.dst v) w) : wpAnyH P md ops Q S (fuel + 1) listed a w :=
  wpAnyH_take (v := v) hi hs hf hr (fun c a w => hQ c a _ w) (.inl ⟨hw, fun w _ => by unfold execOp; simp [ho, hv]⟩) hSw h

/-- an append onto a row of the call's own; the old slice reads as it did -/
theorem run_append_keep {P : Program} (w : World) (base : Nat) (t ty E : TypeId) (i : TypeInfo) (ht : P.underlying t = some (.slice E)) (hi : P.info? E = some i) (hz : i.zero = some (.int .u8 0)) (hs : i.size = 1) (hy : i.bytes = 1)
    (g c : Nat) (l : List UInt8) (hown : OwnB w E base (some ⟨g, 0, none⟩) c l) (S : Nat → TypeId → Prop) (ad : Addr) (d : Nat) (m : List UInt8) (hr : RB w S (some ad) m) (hm : 0 < m.length)
    (hlen : l.length + m.length ≤ 140737488355328) (hbase : base ≤ w.heap.size) :
    ∃ A' c' w', (Builtin.append_ #[t, t] ty #[.slice (some ⟨g, 0, none⟩) l.length c, .slice (some ad) m.length d]).run P w = .ok (.slice A' (l ++ m).length c') w' ∧ OwnB w' E base A' c' (l ++ m) ∧
      w.grownBy w' (some g) ∧ RB w' (fun _ _ => True) (some ⟨g, 0, none⟩) l := by
  obtain ⟨A', c', w', hrun, h2, h3, h4⟩ := run_append_bytes (P := P) w base t ty E i ht hi hz hs hy (some ⟨g, 0, none⟩) c l hown S (some ad) d m hr hlen hbase
  refine ⟨A', c', w', hrun, h2, by simpa [Value.ownBlock] using h3, ?_⟩
  rcases hown.block with ⟨h, _⟩ | ⟨g', cs, h, hg, hh, h1, h2', h3', h4'⟩
  · cases h
  injection h with h
  injection h with h
  subst h
  have hcells : ∀ j u, (m.map u8)[j]? = some u → w.cell? (ad.add j) = some u := by
    intro j u hu
    rw [List.getElem?_map] at hu
    obtain ⟨b, hb, rfl⟩ := Option.map_eq_some_iff.1 hu
    obtain ⟨g2, off2, cs2, t2, fr2, hA, hh2, _, hc⟩ := hr hm
    injection hA with hA
    subst hA
    rw [(addr_add _ _).2 rfl, cells_of hh2]
    exact hc j b hb
  by_cases hroom : l.length + m.length ≤ c
  · have hr2 := run_append_room (P := P) w t ty E i ht hi g l.length c cs hh ad m.length d (m.map u8) (by rw [hs]; simp) hcells (u8s_one m) hroom (by rw [hs]; simp; omega)
    rw [hr2] at hrun
    injection hrun with hv _
    injection hv with hA _ _
    subst hA
    have h5 := h2.rb.take l.length
    rw [List.take_left] at h5
    exact h5.more (fun _ _ _ => trivial)
  · have holds : ∀ j u, (l.map u8)[j]? = some u → w.cell? ((⟨g, 0, none⟩ : Addr).add j) = some u := World.ownsRow.cells (g := g) hown rfl
    have hr2 := run_append_grow (P := P) w t ty E i (.int .u8 0) ht hi hz ⟨g, 0, none⟩ l.length c (l.map u8) (by rw [hs]; simp) holds ad m.length d (m.map u8) (by rw [hs]; simp) hcells (by omega) (by omega)
      (growslice_fits (by omega) (by rw [hy]; omega))
    rw [hr2] at hrun
    injection hrun with _ hw
    subst hw
    exact (hown.rb.ext ((Ext.drew w).tr (Ext.alloc _ _))).more (fun _ _ _ => trivial)
theorem step_append_keep {P : Program} (w : World) {ops : Array Oper} {o : Oper} {a : Act} {K : Act → World → Prop} {Q : Exit → Act → World → Prop} {G : Prop} (hw : Region.wanted o (yielded ops a.tmps) = true) (s x : Operand) (t : TypeId)
    (ho : o.op = .call { callee := .builtin .append, args := #[s, x], argTypes := #[t, t] })
    (base : Nat) (E : TypeId) (i : TypeInfo) (ht : P.underlying t = some (.slice E)) (hi : P.info? E = some i) (hz : i.zero = some (.int .u8 0)) (hsz : i.size = 1) (hy : i.bytes = 1)
    (g c : Nat) (l : List UInt8) (n : Nat) (hn : l.length = n) (hs : a.eval s = .slice (some ⟨g, 0, none⟩) n c) (hown : OwnB w E base (some ⟨g, 0, none⟩) c l) (S : Nat → TypeId → Prop) (ad : Addr) (d k : Nat) (m : List UInt8) (hk : m.length = k) (hx : a.eval x = .slice (some ad) k d) (hr : RB w S (some ad) m) (hm : 0 < m.length)
    (hlen : l.length + m.length ≤ 140737488355328) (hbase : base ≤ w.heap.size)
    (h : ∀ A' c' w', OwnB w' E base A' c' (l ++ m) → w.grownBy w' (some g) → RB w' (fun _ _ => True) (some ⟨g, 0, none⟩) l → K (a.put o.dst (.slice A' (n + k) c')) w') :
    if Region.wanted o (yielded ops a.tmps) = true then Oper.wp P o a w K Q else G := by
  subst hk hn
  obtain ⟨A', c', w', hrun, h2, h3, h4⟩ := run_append_keep (P := P) w base t o.type E i ht hi hz hsz hy g c l hown S ad d m hr hm hlen hbase
  rw [if_pos hw]
  unfold Oper.wp execOp
  simp only [ho, resolve, invoke, builtin, Sem.run_bind, Sem.run_pure, Result.andThen_ok, List.map_toArray, List.map_cons, List.map_nil, hs, hx, hrun]
  rw [List.length_append]
  exact h A' c' w' h2 h3 h4

/-- a row of slices in a new block -/
theorem RBC.made (w : World) (vs : Array Value) (T : TypeId) (ls : List (List UInt8)) (h : ∀ (j : Nat) (l : List UInt8), ls[j]? = some l → ∃ (B : Option Addr) (c : Nat), vs[j]? = some (Value.slice B l.length c) ∧ RB w (fun _ _ => True) B l ∧ l.length ≤ c ∧ c ≤ 9223372036854775807) :
    RBC (w.alloc (.cells vs T)) (fun _ _ => True) (fun _ _ => True) (some ⟨w.heap.size, 0, none⟩) ls := by
  intro _
  refine ⟨_, 0, _, _, _, rfl, new_of w _, trivial, fun j l hj => ?_⟩
  obtain ⟨B, c, h1, h2, h3⟩ := h j l hj
  exact ⟨B, c, by rw [Nat.zero_add]; exact h1, h2.ext (Ext.alloc _ _), h3⟩
theorem rows_one {w : World} {T : TypeId} {B : Option Addr} {k d : Nat} {b : List UInt8} (hk : b.length = k) (hd : k ≤ d ∧ d ≤ 9223372036854775807) (hb : RB w (fun _ _ => True) B b) :
    RBC (w.alloc (.cells #[.slice B k d] T)) (fun _ _ => True) (fun _ _ => True) (some ⟨w.heap.size, 0, none⟩) [b] := by
  subst hk
  refine RBC.made w _ T _ fun j l hj => ?_
  rcases j with _ | j
  · simp at hj; subst hj; exact ⟨B, d, rfl, hb, hd⟩
  · simp at hj
theorem rows_two {w : World} {T : TypeId} {B C : Option Addr} {k d : Nat} {b : List UInt8} {x : UInt8} (hk : b.length = k) (hd : k ≤ d ∧ d ≤ 9223372036854775807) (hb : RB w (fun _ _ => True) B b) (hc : RB w (fun _ _ => True) C [x]) :
    RBC (w.alloc (.cells #[.slice B k d, .slice C 1 1] T)) (fun _ _ => True) (fun _ _ => True) (some ⟨w.heap.size, 0, none⟩) [b, [x]] := by
  subst hk
  refine RBC.made w _ T _ fun j l hj => ?_
  rcases j with _ | _ | j
  · simp at hj; subst hj; exact ⟨B, d, rfl, hb, hd⟩
  · simp at hj; subst hj; exact ⟨C, 1, rfl, hc, by simp, by simp⟩
  · simp at hj
theorem rows_three {w : World} {T : TypeId} {B : Option Addr} {k d : Nat} {b : List UInt8} (hk : b.length = k) (hd : k ≤ d ∧ d ≤ 9223372036854775807) (hb : RB w (fun _ _ => True) B b) :
    RBC (w.alloc (.cells #[.slice none 0 0, .slice B k d, .slice none 0 0] T)) (fun _ _ => True) (fun _ _ => True) (some ⟨w.heap.size, 0, none⟩) [[], b, []] := by
  subst hk
  refine RBC.made w _ T _ fun j l hj => ?_
  rcases j with _ | _ | _ | j
  · simp at hj; subst hj; exact ⟨none, 0, rfl, RB.nil _ _ _, by simp, by simp⟩
  · simp at hj; subst hj; exact ⟨B, d, rfl, hb, hd⟩
  · simp at hj; subst hj; exact ⟨none, 0, rfl, RB.nil _ _ _, by simp, by simp⟩
  · simp at hj

/-- the law's variables: the first digest, the bytes -/
def HeldL (w : World) (g8 : Nat) (B : Option Addr) (b : List UInt8) (V : World) : Prop := Arr V g8 26 .u8 32 (sum kc b) ∧ RB V (fun _ _ => True) B b ∧ Ext w V
theorem HeldL.ext {w : World} {g8 : Nat} {B : Option Addr} {b : List UInt8} {V V' : World} (h : HeldL w g8 B b V) (hx : Ext V V') : HeldL w g8 B b V' := ⟨h.1.ext hx, h.2.1.ext hx, h.2.2.tr hx⟩

set_option maxRecDepth 100000 in
set_option maxHeartbeats 8000000 in
theorem limits_go (n : Nat) (cb : UInt8) (hn : n < 256) (w : World) (ht : Tab w) :
    Calls Tryd.prog 7 #[.int .u8 n, .int .u8 (cb.toNat : Int)] w fun e w' => e = .returned (.bool true) ∧ Ext w w' := by
  obtain ⟨i0, hi0, hz0, hz1, hz2⟩ := info_parts info_u8
  have HT := Lib.hid ht
  clear ht
  have hcb := u8_lt cb
  obtain ⟨hcb1, hcb2⟩ := hcb
  go_enter Tryd.func7, Tryd.ntmps7
  go_wp2_with fail
  refine (awake_c _ HT.out).mono ?_
  rintro e w1 ⟨rfl, hx1⟩
  have HX1 := Lib.hid hx1
  clear hx1
  go_wp2_with fail
  obtain ⟨k, hk⟩ : ∃ k : Nat, k = 54 + n % 76 := ⟨_, rfl⟩
  have hk1 : 54 ≤ k ∧ k ≤ 129 := by omega
  obtain ⟨hk1, hk2⟩ := hk1
  rw [show (54 : Int) + (n : Int) % 76 = (k : Int) by omega]
  clear hk
  go_loopw [6, 7] (fun v i wr => ∃ (j : Nat) (B : Option Addr) (d : Nat), j ≤ k ∧ i = .int .i64 j ∧ v = .slice B j d ∧ OwnB wr 5 w.heap.size B d (List.replicate j cb) ∧ Ext w wr) (fun _ i _ => k - (intOf i).toNat)
  case atStart => exact ⟨0, none, 0, Nat.zero_le _, rfl, rfl, OwnB.nil _ _ _, HX1.out⟩
  case round =>
    obtain ⟨j, B, d, hj, rfl, rfl, hor, hxr⟩ := hrel
    by_cases hlt : j < k
    · have hsz := hxr.size
      have hor' := hor.ext (Ext.alloc wr (.cells #[.int .u8 (cb.toNat : Int)] 5))
      have hlit := RB.lit wr [cb] #[.int .u8 (cb.toNat : Int)] 5 rfl
      have HL := Lib.hid (List.length_replicate (n := j) (a := cb))
      have hb1 : (List.replicate j cb).length + ([cb] : List UInt8).length ≤ 140737488355328 := by simp; omega
      have HS := Lib.hid (List.replicate_succ' (n := j) (a := cb))
      go_wp2_with (at_builtin; refine wpList_append_bytes _ rfl _ _ 24 rfl w.heap.size 5 i0 Tryd.underlying24 hi0 hz0 hz1 hz2 B d (List.replicate j cb) (by rw [HL.out]; rfl) hor' _ (some ⟨wr.heap.size, 0, none⟩) 1 [cb] rfl hlit hb1 (by simp; omega) ?_; intro A' c' w2 ho2 hg2 hb2)
      have hxn := grown_new (hxr.tr (Ext.alloc _ _)) hg2 hor'.ge
      rw [← HS.out] at ho2
      go_roundw
      case rel => exact ⟨j + 1, A', c', by omega, by go_num, by simp, ho2, hxn⟩
      case measure => simp [intOf]; omega
    · obtain ⟨b, hb⟩ : ∃ b, b = List.replicate j cb := ⟨_, rfl⟩
      have hbj : b.length = j := by rw [hb, List.length_replicate]
      rw [← hb] at hor
      obtain ⟨gB, rfl⟩ : ∃ gB, B = some ⟨gB, 0, none⟩ := by
        rcases hor.block with ⟨_, _, h⟩ | ⟨g, _, h, _⟩
        · rw [h] at hbj; simp at hbj; omega
        · exact ⟨g, h⟩
      have hkd : j ≤ d ∧ d ≤ 9223372036854775807 := by have := hor.le; unfold maxLen at this; omega
      have hj54 : 54 ≤ j ∧ j ≤ 129 := by omega
      have HJ := Lib.hid hj54
      have HKD := Lib.hid hkd
      have HK := Lib.hid hbj
      have HO := Lib.hid hor
      have HX := Lib.hid hxr
      have HB := Lib.hid (hor.rb.more (S' := fun _ _ => True) (fun _ _ _ => trivial))
      have HT1 := Lib.hid (HT.out.ext hxr)
      have F1 := Lib.hid (show fla [b] = b by simp [fla])
      clear hb hbj hor hxr hkd hj54
      go_wp2_with fail
      refine (sum_c _ 1 [b] _ _ _ (HT1.out.ext (Ext.alloc _ _)) (rows_one HK.out HKD.out HB.out) (by rw [F1.out, HK.out]; have := HJ.out; omega) (by simp)).mono ?_
      rintro e w2 ⟨rfl, hx2⟩
      rw [F1.out]
      have hx2' : Ext wr w2 := (Ext.alloc _ _).tr hx2
      have HX2 := Lib.hid hx2'
      clear hx2 hx2'
      go_wp2_with (refine wpList_store_arr' rfl rfl 26 (.tmp 8) (.tmp 26) rfl w2.heap.size .u8 32 (sum kc b) rfl rfl 26 _ (new_of _ _) size_dig rfl ?_; intro W hA hG)
      have hxW : Ext w2 W := grown_new (Ext.alloc _ _) hG (fun g hg => by simp at hg; omega)
      have HXW := Lib.hid (HX2.out.tr hxW)
      have HA := Lib.hid hA
      have HO3 := Lib.hid (HO.out.ext HXW.out)
      have hgb : gB < w2.heap.size := by
        rcases HO.out.block with ⟨h, _⟩ | ⟨g, cs, h, hg, hh, _⟩
        · cases h
        · injection h with h; injection h with h; subst h
          have := lt_of_some hh; have := HX2.out.size; omega
      clear hxW hA hG
      obtain ⟨g8, hg8⟩ : ∃ g8, g8 = w2.heap.size := ⟨_, rfl⟩
      rw [← hg8] at HA hgb ⊢
      have h0 : HeldL w g8 (some ⟨gB, 0, none⟩) b W := ⟨HA.out, HB.out.ext HXW.out, HX.out.tr HXW.out⟩
      have H0 := Lib.hid h0
      have hne : g8 ≠ gB := by omega
      have hge : ∀ g, (some gB : Option Nat) = some g → w.heap.size ≤ g := by have := HO.out.ge; simpa [Value.ownBlock] using this
      have HN : Hid (∀ V V', HeldL w g8 (some ⟨gB, 0, none⟩) b V → V.grownBy V' (some gB) → RB V' (fun _ _ => True) (some ⟨gB, 0, none⟩) b → HeldL w g8 (some ⟨gB, 0, none⟩) b V') := Lib.hid (fun V V' h hg hb => ⟨grown_get hg h.1 (fun e => hne (Option.some.inj e).symm), hb, grown_new h.2.2 hg hge⟩)
      have H9 : Hid (∀ (A : Option Addr) (V : World), RBC V (fun _ _ => True) (fun _ _ => True) A [b, [cb]] → HeldL w g8 (some ⟨gB, 0, none⟩) b V → Calls Tryd.prog 10 #[.slice A 2 2] V fun e w' => e = .returned (.agg (tabV .u8 32 (sum kc (b ++ [cb])))) ∧ Ext V w') := Lib.hid (fun A V hr hh => by
        have h := sum_c A 2 [b, [cb]] _ _ V (HT.out.ext hh.2.2) hr (by simp [fla, HK.out]; have := HJ.out; omega) (by simp)
        rw [show fla [b, [cb]] = b ++ [cb] by simp [fla]] at h
        exact h)
      have H20 : Hid (∀ (A : Option Addr) (V : World), RBC V (fun _ _ => True) (fun _ _ => True) A [[], b, []] → HeldL w g8 (some ⟨gB, 0, none⟩) b V → Calls Tryd.prog 10 #[.slice A 3 3] V fun e w' => e = .returned (.agg (tabV .u8 32 (sum kc b))) ∧ Ext V w') := Lib.hid (fun A V hr hh => by
        have h := sum_c A 3 [[], b, []] _ _ V (HT.out.ext hh.2.2) hr (by simp [fla, HK.out]; have := HJ.out; omega) (by simp)
        rw [show fla [[], b, []] = b by simp [fla]] at h
        exact h)
      have H2 : Hid (∀ V, HeldL w g8 (some ⟨gB, 0, none⟩) b V → Calls Tryd.prog 11 #[.slice (some ⟨gB, 0, none⟩) j d] V fun e w' => e = .returned (.agg (tabV .u8 32 (sum kc b))) ∧ Ext V w') := Lib.hid (fun V hh => by
        have h := rsum_c (some ⟨gB, 0, none⟩) d b _ V hh.2.1 (by rw [HK.out]; have := HJ.out; omega)
        rw [HK.out] at h
        exact h)
      have H14 : Hid (∀ (A : Option Addr) (c : Nat) (V : World) (S : Nat → TypeId → Prop), RB V S A (b ++ [cb]) → Calls Tryd.prog 11 #[.slice A (j + 1) c] V fun e w' => e = .returned (.agg (tabV .u8 32 (sum kc (b ++ [cb])))) ∧ Ext V w') := Lib.hid (fun A c V S hr => by
        have h := rsum_c A c (b ++ [cb]) _ V hr (by rw [List.length_append, HK.out]; have := HJ.out; simp; omega)
        rw [List.length_append, HK.out] at h
        exact h)
      clear h0 hg8 hgb hne hge
      refine wp_region_held_drew (S := HeldL w g8 (some ⟨gB, 0, none⟩) b) (by kernel_rfl) (H0.out.ext (Ext.drew W)) (fun hHeld => ?_)
      have hE : Ext W W.drew := Ext.drew W
      refine wpAnyH_take_arr 0 rfl (by kernel_rfl) (by kernel_rfl) (by kernel_rfl) (fun _ _ _ _ h => h) (by kernel_rfl) 26 (.tmp 8) rfl g8 0 rfl .u8 32 (sum kc b) _ (fun _ hw => rangeAt_arr hw.1) Tryd.underlying26 size_dig hHeld ?_
      refine wpAnyH_take_move 1 rfl (by kernel_rfl) (by kernel_rfl) (by kernel_rfl) (fun _ _ _ _ h => h) (by kernel_rfl) (.tmp 6) rfl (.slice (some ⟨gB, 0, none⟩) j d) rfl hHeld ?_
      simp only [Act.put, List.setIfInBounds_toArray, List.set_cons_zero, List.set_cons_succ]
      refine wpAnyH_ready (rs := [2]) (by kernel_rfl) (by simp) ?_
      refine AllReadyH.cons rfl (fun K hK => ?_) AllReadyH.nil
      go_simp
      refine (H2.out _ hHeld).mono ?_
      rintro e vA ⟨rfl, hx⟩
      refine hK.out _ _ (hHeld.ext hx) (fun hHeld => ?_)
      clear hK K
      try simp only [Act.put, List.setIfInBounds_toArray, List.set_cons_zero, List.set_cons_succ]
      have hE := hE.tr hx
      clear hx
      refine wpAnyH_ready (rs := [3]) (by kernel_rfl) (by simp) ?_
      refine AllReadyH.cons rfl (fun K hK => ?_) AllReadyH.nil
      refine step_eql_tab (by kernel_rfl) 26 26 (.tmp 27) (.tmp 29) rfl .u8 32 (sum kc b) (sum kc b) rfl rfl 5 Tryd.underlying26 Tryd.underlying5 size_u8 cells_u8 noGuard_dig (fun _ _ => rfl) ?_
      refine hK.out _ _ hHeld (fun _ => ?_)
      clear hK K
      try simp only [Act.put, List.setIfInBounds_toArray, List.set_cons_zero, List.set_cons_succ]
      refine wpAnyH_ready (rs := [4]) (by kernel_rfl) (by simp) ?_
      refine AllReadyH.cons rfl (fun K hK => ?_) AllReadyH.nil
      go_simp
      refine hK.out _ _ hHeld (fun _ => ?_)
      clear hK K
      try simp only [Act.put, List.setIfInBounds_toArray, List.set_cons_zero, List.set_cons_succ]
      refine wpAnyH_take_move 5 rfl (by kernel_rfl) (by kernel_rfl) (by kernel_rfl) (fun _ _ _ _ h => h) (by kernel_rfl) (.tmp 6) rfl (.slice (some ⟨gB, 0, none⟩) j d) rfl hHeld ?_
      refine wpAnyH_take_move 6 rfl (by kernel_rfl) (by kernel_rfl) (by kernel_rfl) (fun _ _ _ _ h => h) (by kernel_rfl) (.tmp 1) rfl (.int .u8 (cb.toNat : Int)) rfl hHeld ?_
      refine wpAnyH_take_move 10 rfl (by kernel_rfl) (by kernel_rfl) (by kernel_rfl) (fun _ _ _ _ h => h) (by kernel_rfl) (.tmp 6) rfl (.slice (some ⟨gB, 0, none⟩) j d) rfl hHeld ?_
      refine wpAnyH_take_move 11 rfl (by kernel_rfl) (by kernel_rfl) (by kernel_rfl) (fun _ _ _ _ h => h) (by kernel_rfl) (.tmp 1) rfl (.int .u8 (cb.toNat : Int)) rfl hHeld ?_
      simp only [Act.put, List.setIfInBounds_toArray, List.set_cons_zero, List.set_cons_succ]
      refine wpAnyH_ready (rs := [7, 12]) (by kernel_rfl) (by simp) ?_
      refine AllReadyH.cons rfl (fun K hK => ?_) (AllReadyH.cons rfl (fun K hK => ?_) AllReadyH.nil)
      · skip
        go_simp
        have hHb := hHeld
        refine hK.out _ _ (hHeld.ext (Ext.alloc _ _)) (fun hHeld => ?_)
        clear hK K
        try simp only [Act.put, List.setIfInBounds_toArray, List.set_cons_zero, List.set_cons_succ]
        have hx : Ext vA (World.alloc vA (.cells #[.int .u8 (cb.toNat : Int)] 5)) := Ext.alloc _ _
        have hr7 := (RB.lit vA [cb] #[.int .u8 (cb.toNat : Int)] 5 rfl).more (S' := fun _ _ => True) (fun _ _ _ => trivial)
        obtain ⟨v1, hv1⟩ : ∃ x, x = World.alloc vA (.cells #[.int .u8 (cb.toNat : Int)] 5) := ⟨_, rfl⟩
        rw [← hv1] at hHeld hx hr7 ⊢
        have hE := hE.tr hx
        clear hv1 hx hHb
        refine wpAnyH_ready (rs := [8, 12]) (by kernel_rfl) (by simp) ?_
        refine AllReadyH.cons rfl (fun K hK => ?_) (AllReadyH.cons rfl (fun K hK => ?_) AllReadyH.nil)
        · skip
          go_simp
          have hHb := hHeld
          refine hK.out _ _ (hHeld.ext (Ext.alloc _ _)) (fun hHeld => ?_)
          clear hK K
          try simp only [Act.put, List.setIfInBounds_toArray, List.set_cons_zero, List.set_cons_succ]
          have hx : Ext v1 (World.alloc v1 (.cells #[.slice (some ⟨gB, 0, none⟩) j d, .slice (some ⟨vA.heap.size, 0, none⟩) 1 1] 24)) := Ext.alloc _ _
          have hr8 := rows_two (T := 24) HK.out HKD.out hHb.2.1 hr7
          obtain ⟨v2, hv2⟩ : ∃ x, x = World.alloc v1 (.cells #[.slice (some ⟨gB, 0, none⟩) j d, .slice (some ⟨vA.heap.size, 0, none⟩) 1 1] 24) := ⟨_, rfl⟩
          rw [← hv2] at hHeld hx hr8 ⊢
          have hE := hE.tr hx
          clear hv2 hx hHb
          refine wpAnyH_ready (rs := [9, 12]) (by kernel_rfl) (by simp) ?_
          refine AllReadyH.cons rfl (fun K hK => ?_) (AllReadyH.cons rfl (fun K hK => ?_) AllReadyH.nil)
          · skip
            go_simp
            refine (H9.out _ _ hr8 hHeld).mono ?_
            rintro e v3 ⟨rfl, hx⟩
            refine hK.out _ _ (hHeld.ext hx) (fun hHeld => ?_)
            clear hK K
            try simp only [Act.put, List.setIfInBounds_toArray, List.set_cons_zero, List.set_cons_succ]
            have hE := hE.tr hx
            clear hx
            refine wpAnyH_ready (rs := [12]) (by kernel_rfl) (by simp) ?_
            refine AllReadyH.cons rfl (fun K hK => ?_) AllReadyH.nil
            go_simp
            have hHb := hHeld
            refine hK.out _ _ (hHeld.ext (Ext.alloc _ _)) (fun hHeld => ?_)
            clear hK K
            try simp only [Act.put, List.setIfInBounds_toArray, List.set_cons_zero, List.set_cons_succ]
            have hx : Ext v3 (World.alloc v3 (.cells #[.int .u8 (cb.toNat : Int)] 5)) := Ext.alloc _ _
            have hr12 := (RB.lit v3 [cb] #[.int .u8 (cb.toNat : Int)] 5 rfl).more (S' := fun _ _ => True) (fun _ _ _ => trivial)
            obtain ⟨v4, hv4⟩ : ∃ x, x = World.alloc v3 (.cells #[.int .u8 (cb.toNat : Int)] 5) := ⟨_, rfl⟩
            rw [← hv4] at hHeld hx hr12 ⊢
            have hE := hE.tr hx
            clear hv4 hx hHb
            refine wpAnyH_ready (rs := [13]) (by kernel_rfl) (by simp) ?_
            refine AllReadyH.cons rfl (fun K hK => ?_) AllReadyH.nil
            refine step_append_keep v4 (by kernel_rfl) (.tmp 37) (.tmp 39) 24 rfl w.heap.size 5 i0 Tryd.underlying24 hi0 hz0 hz1 hz2 gB d b j HK.out rfl (HO3.out.ext hE) _ ⟨v3.heap.size, 0, none⟩ 1 1 [cb] rfl rfl hr12 (by simp) (by rw [HK.out]; have := HJ.out; simp; omega) hHeld.2.2.size ?_
            intro A' c' x1 ho1 hg1 hb1
            have hh1 : HeldL w g8 (some ⟨gB, 0, none⟩) b x1 := HN.out _ _ hHeld hg1 hb1
            refine hK.out _ _ hh1 (fun hHeld => ?_)
            clear hK K hg1 hb1 hh1
            try simp only [Act.put, List.setIfInBounds_toArray, List.set_cons_zero, List.set_cons_succ]
            refine wpAnyH_ready (rs := [14]) (by kernel_rfl) (by simp) ?_
            refine AllReadyH.cons rfl (fun K hK => ?_) AllReadyH.nil
            go_simp
            refine (H14.out _ _ _ _ ho1.rb).mono ?_
            rintro e x2 ⟨rfl, hx⟩
            refine hK.out _ _ (hHeld.ext hx) (fun hHeld => ?_)
            clear hK K hx
            try simp only [Act.put, List.setIfInBounds_toArray, List.set_cons_zero, List.set_cons_succ]
            refine wpAnyH_ready (rs := [15]) (by kernel_rfl) (by simp) ?_
            refine AllReadyH.cons rfl (fun K hK => ?_) AllReadyH.nil
            refine step_eql_tab (by kernel_rfl) 26 26 (.tmp 36) (.tmp 41) rfl .u8 32 (sum kc (b ++ [cb])) (sum kc (b ++ [cb])) rfl rfl 5 Tryd.underlying26 Tryd.underlying5 size_u8 cells_u8 noGuard_dig (fun _ _ => rfl) ?_
            refine hK.out _ _ hHeld (fun _ => ?_)
            clear hK K
            try simp only [Act.put, List.setIfInBounds_toArray, List.set_cons_zero, List.set_cons_succ]
            refine wpAnyH_ready (rs := [16]) (by kernel_rfl) (by simp) ?_
            refine AllReadyH.cons rfl (fun K hK => ?_) AllReadyH.nil
            go_simp
            refine hK.out _ _ hHeld (fun _ => ?_)
            clear hK K
            try simp only [Act.put, List.setIfInBounds_toArray, List.set_cons_zero, List.set_cons_succ]
            refine wpAnyH_ready (rs := [17]) (by kernel_rfl) (by simp) ?_
            refine AllReadyH.cons rfl (fun K hK => ?_) AllReadyH.nil
            go_simp
            refine hK.out _ _ hHeld (fun _ => ?_)
            clear hK K
            try simp only [Act.put, List.setIfInBounds_toArray, List.set_cons_zero, List.set_cons_succ]
            refine wpAnyH_take_move 18 rfl (by kernel_rfl) (by kernel_rfl) (by kernel_rfl) (fun _ _ _ _ h => h) (by kernel_rfl) (.tmp 6) rfl (.slice (some ⟨gB, 0, none⟩) j d) rfl hHeld ?_
            refine wpAnyH_take_arr 21 rfl (by kernel_rfl) (by kernel_rfl) (by kernel_rfl) (fun _ _ _ _ h => h) (by kernel_rfl) 26 (.tmp 8) rfl g8 0 rfl .u8 32 (sum kc b) _ (fun _ hw => rangeAt_arr hw.1) Tryd.underlying26 size_dig hHeld ?_
            simp only [Act.put, List.setIfInBounds_toArray, List.set_cons_zero, List.set_cons_succ]
            refine wpAnyH_ready (rs := [19]) (by kernel_rfl) (by simp) ?_
            refine AllReadyH.cons rfl (fun K hK => ?_) AllReadyH.nil
            go_simp
            have hr19 := rows_three (T := 24) HK.out HKD.out hHeld.2.1
            refine hK.out _ _ (hHeld.ext (Ext.alloc _ _)) (fun hHeld => ?_)
            clear hK K
            try simp only [Act.put, List.setIfInBounds_toArray, List.set_cons_zero, List.set_cons_succ]
            refine wpAnyH_ready (rs := [20]) (by kernel_rfl) (by simp) ?_
            refine AllReadyH.cons rfl (fun K hK => ?_) AllReadyH.nil
            go_simp
            refine (H20.out _ _ hr19 hHeld).mono ?_
            rintro e x3 ⟨rfl, hx⟩
            refine hK.out _ _ (hHeld.ext hx) (fun hHeld => ?_)
            clear hK K hx hr19
            try simp only [Act.put, List.setIfInBounds_toArray, List.set_cons_zero, List.set_cons_succ]
            refine wpAnyH_ready (rs := [22]) (by kernel_rfl) (by simp) ?_
            refine AllReadyH.cons rfl (fun K hK => ?_) AllReadyH.nil
            refine step_eql_tab (by kernel_rfl) 26 26 (.tmp 47) (.tmp 48) rfl .u8 32 (sum kc b) (sum kc b) rfl rfl 5 Tryd.underlying26 Tryd.underlying5 size_u8 cells_u8 noGuard_dig (fun _ _ => rfl) ?_
            refine hK.out _ _ hHeld (fun _ => ?_)
            clear hK K
            try simp only [Act.put, List.setIfInBounds_toArray, List.set_cons_zero, List.set_cons_succ]
            refine wpAnyH_ready (rs := [23]) (by kernel_rfl) (by simp) ?_
            refine AllReadyH.cons rfl (fun K hK => ?_) AllReadyH.nil
            go_simp
            refine hK.out _ _ hHeld (fun _ => ?_)
            clear hK K
            try simp only [Act.put, List.setIfInBounds_toArray, List.set_cons_zero, List.set_cons_succ]
            refine wpAnyH_ready (rs := [24]) (by kernel_rfl) (by simp) ?_
            refine AllReadyH.cons rfl (fun K hK => ?_) AllReadyH.nil
            go_simp
            refine hK.out _ _ hHeld (fun _ => ?_)
            clear hK K
            try simp only [Act.put, List.setIfInBounds_toArray, List.set_cons_zero, List.set_cons_succ]
            refine wpAnyH_done (by kernel_rfl) ?_ _
            go_wp2_with fail
            go_ret
            exact ⟨rfl, hHeld.2.2⟩
          · skip
            go_simp
            have hHb := hHeld
            refine hK.out _ _ (hHeld.ext (Ext.alloc _ _)) (fun hHeld => ?_)
            clear hK K
            try simp only [Act.put, List.setIfInBounds_toArray, List.set_cons_zero, List.set_cons_succ]
            have hx : Ext v2 (World.alloc v2 (.cells #[.int .u8 (cb.toNat : Int)] 5)) := Ext.alloc _ _
            have hr12 := (RB.lit v2 [cb] #[.int .u8 (cb.toNat : Int)] 5 rfl).more (S' := fun _ _ => True) (fun _ _ _ => trivial)
            obtain ⟨v3, hv3⟩ : ∃ x, x = World.alloc v2 (.cells #[.int .u8 (cb.toNat : Int)] 5) := ⟨_, rfl⟩
            rw [← hv3] at hHeld hx hr12 ⊢
            have hE := hE.tr hx
            have hr8 := hr8.ext hx
            clear hv3 hx hHb
            refine wpAnyH_ready (rs := [9]) (by kernel_rfl) (by simp) ?_
            refine AllReadyH.cons rfl (fun K hK => ?_) AllReadyH.nil
            go_simp
            refine (H9.out _ _ hr8 hHeld).mono ?_
            rintro e v4 ⟨rfl, hx⟩
            refine hK.out _ _ (hHeld.ext hx) (fun hHeld => ?_)
            clear hK K
            try simp only [Act.put, List.setIfInBounds_toArray, List.set_cons_zero, List.set_cons_succ]
            have hE := hE.tr hx
            have hr12 := hr12.ext hx
            clear hx
            refine wpAnyH_ready (rs := [13]) (by kernel_rfl) (by simp) ?_
            refine AllReadyH.cons rfl (fun K hK => ?_) AllReadyH.nil
            refine step_append_keep v4 (by kernel_rfl) (.tmp 37) (.tmp 39) 24 rfl w.heap.size 5 i0 Tryd.underlying24 hi0 hz0 hz1 hz2 gB d b j HK.out rfl (HO3.out.ext hE) _ ⟨v2.heap.size, 0, none⟩ 1 1 [cb] rfl rfl hr12 (by simp) (by rw [HK.out]; have := HJ.out; simp; omega) hHeld.2.2.size ?_
            intro A' c' x1 ho1 hg1 hb1
            have hh1 : HeldL w g8 (some ⟨gB, 0, none⟩) b x1 := HN.out _ _ hHeld hg1 hb1
            refine hK.out _ _ hh1 (fun hHeld => ?_)
            clear hK K hg1 hb1 hh1
            try simp only [Act.put, List.setIfInBounds_toArray, List.set_cons_zero, List.set_cons_succ]
            refine wpAnyH_ready (rs := [14]) (by kernel_rfl) (by simp) ?_
            refine AllReadyH.cons rfl (fun K hK => ?_) AllReadyH.nil
            go_simp
            refine (H14.out _ _ _ _ ho1.rb).mono ?_
            rintro e x2 ⟨rfl, hx⟩
            refine hK.out _ _ (hHeld.ext hx) (fun hHeld => ?_)
            clear hK K hx
            try simp only [Act.put, List.setIfInBounds_toArray, List.set_cons_zero, List.set_cons_succ]
            refine wpAnyH_ready (rs := [15]) (by kernel_rfl) (by simp) ?_
            refine AllReadyH.cons rfl (fun K hK => ?_) AllReadyH.nil
            refine step_eql_tab (by kernel_rfl) 26 26 (.tmp 36) (.tmp 41) rfl .u8 32 (sum kc (b ++ [cb])) (sum kc (b ++ [cb])) rfl rfl 5 Tryd.underlying26 Tryd.underlying5 size_u8 cells_u8 noGuard_dig (fun _ _ => rfl) ?_
            refine hK.out _ _ hHeld (fun _ => ?_)
            clear hK K
            try simp only [Act.put, List.setIfInBounds_toArray, List.set_cons_zero, List.set_cons_succ]
            refine wpAnyH_ready (rs := [16]) (by kernel_rfl) (by simp) ?_
            refine AllReadyH.cons rfl (fun K hK => ?_) AllReadyH.nil
            go_simp
            refine hK.out _ _ hHeld (fun _ => ?_)
            clear hK K
            try simp only [Act.put, List.setIfInBounds_toArray, List.set_cons_zero, List.set_cons_succ]
            refine wpAnyH_ready (rs := [17]) (by kernel_rfl) (by simp) ?_
            refine AllReadyH.cons rfl (fun K hK => ?_) AllReadyH.nil
            go_simp
            refine hK.out _ _ hHeld (fun _ => ?_)
            clear hK K
            try simp only [Act.put, List.setIfInBounds_toArray, List.set_cons_zero, List.set_cons_succ]
            refine wpAnyH_take_move 18 rfl (by kernel_rfl) (by kernel_rfl) (by kernel_rfl) (fun _ _ _ _ h => h) (by kernel_rfl) (.tmp 6) rfl (.slice (some ⟨gB, 0, none⟩) j d) rfl hHeld ?_
            refine wpAnyH_take_arr 21 rfl (by kernel_rfl) (by kernel_rfl) (by kernel_rfl) (fun _ _ _ _ h => h) (by kernel_rfl) 26 (.tmp 8) rfl g8 0 rfl .u8 32 (sum kc b) _ (fun _ hw => rangeAt_arr hw.1) Tryd.underlying26 size_dig hHeld ?_
            simp only [Act.put, List.setIfInBounds_toArray, List.set_cons_zero, List.set_cons_succ]
            refine wpAnyH_ready (rs := [19]) (by kernel_rfl) (by simp) ?_
            refine AllReadyH.cons rfl (fun K hK => ?_) AllReadyH.nil
            go_simp
            have hr19 := rows_three (T := 24) HK.out HKD.out hHeld.2.1
            refine hK.out _ _ (hHeld.ext (Ext.alloc _ _)) (fun hHeld => ?_)
            clear hK K
            try simp only [Act.put, List.setIfInBounds_toArray, List.set_cons_zero, List.set_cons_succ]
            refine wpAnyH_ready (rs := [20]) (by kernel_rfl) (by simp) ?_
            refine AllReadyH.cons rfl (fun K hK => ?_) AllReadyH.nil
            go_simp
            refine (H20.out _ _ hr19 hHeld).mono ?_
            rintro e x3 ⟨rfl, hx⟩
            refine hK.out _ _ (hHeld.ext hx) (fun hHeld => ?_)
            clear hK K hx hr19
            try simp only [Act.put, List.setIfInBounds_toArray, List.set_cons_zero, List.set_cons_succ]
            refine wpAnyH_ready (rs := [22]) (by kernel_rfl) (by simp) ?_
            refine AllReadyH.cons rfl (fun K hK => ?_) AllReadyH.nil
            refine step_eql_tab (by kernel_rfl) 26 26 (.tmp 47) (.tmp 48) rfl .u8 32 (sum kc b) (sum kc b) rfl rfl 5 Tryd.underlying26 Tryd.underlying5 size_u8 cells_u8 noGuard_dig (fun _ _ => rfl) ?_
            refine hK.out _ _ hHeld (fun _ => ?_)
            clear hK K
            try simp only [Act.put, List.setIfInBounds_toArray, List.set_cons_zero, List.set_cons_succ]
            refine wpAnyH_ready (rs := [23]) (by kernel_rfl) (by simp) ?_
            refine AllReadyH.cons rfl (fun K hK => ?_) AllReadyH.nil
            go_simp
            refine hK.out _ _ hHeld (fun _ => ?_)
            clear hK K
            try simp only [Act.put, List.setIfInBounds_toArray, List.set_cons_zero, List.set_cons_succ]
            refine wpAnyH_ready (rs := [24]) (by kernel_rfl) (by simp) ?_
            refine AllReadyH.cons rfl (fun K hK => ?_) AllReadyH.nil
            go_simp
            refine hK.out _ _ hHeld (fun _ => ?_)
            clear hK K
            try simp only [Act.put, List.setIfInBounds_toArray, List.set_cons_zero, List.set_cons_succ]
            refine wpAnyH_done (by kernel_rfl) ?_ _
            go_wp2_with fail
            go_ret
            exact ⟨rfl, hHeld.2.2⟩
        · skip
          go_simp
          have hHb := hHeld
          refine hK.out _ _ (hHeld.ext (Ext.alloc _ _)) (fun hHeld => ?_)
          clear hK K
          try simp only [Act.put, List.setIfInBounds_toArray, List.set_cons_zero, List.set_cons_succ]
          have hx : Ext v1 (World.alloc v1 (.cells #[.int .u8 (cb.toNat : Int)] 5)) := Ext.alloc _ _
          have hr12 := (RB.lit v1 [cb] #[.int .u8 (cb.toNat : Int)] 5 rfl).more (S' := fun _ _ => True) (fun _ _ _ => trivial)
          obtain ⟨v2, hv2⟩ : ∃ x, x = World.alloc v1 (.cells #[.int .u8 (cb.toNat : Int)] 5) := ⟨_, rfl⟩
          rw [← hv2] at hHeld hx hr12 ⊢
          have hE := hE.tr hx
          have hr7 := hr7.ext hx
          clear hv2 hx hHb
          refine wpAnyH_ready (rs := [8]) (by kernel_rfl) (by simp) ?_
          refine AllReadyH.cons rfl (fun K hK => ?_) AllReadyH.nil
          go_simp
          have hHb := hHeld
          refine hK.out _ _ (hHeld.ext (Ext.alloc _ _)) (fun hHeld => ?_)
          clear hK K
          try simp only [Act.put, List.setIfInBounds_toArray, List.set_cons_zero, List.set_cons_succ]
          have hx : Ext v2 (World.alloc v2 (.cells #[.slice (some ⟨gB, 0, none⟩) j d, .slice (some ⟨vA.heap.size, 0, none⟩) 1 1] 24)) := Ext.alloc _ _
          have hr8 := rows_two (T := 24) HK.out HKD.out hHb.2.1 hr7
          obtain ⟨v3, hv3⟩ : ∃ x, x = World.alloc v2 (.cells #[.slice (some ⟨gB, 0, none⟩) j d, .slice (some ⟨vA.heap.size, 0, none⟩) 1 1] 24) := ⟨_, rfl⟩
          rw [← hv3] at hHeld hx hr8 ⊢
          have hE := hE.tr hx
          have hr12 := hr12.ext hx
          clear hv3 hx hHb
          refine wpAnyH_ready (rs := [9]) (by kernel_rfl) (by simp) ?_
          refine AllReadyH.cons rfl (fun K hK => ?_) AllReadyH.nil
          go_simp
          refine (H9.out _ _ hr8 hHeld).mono ?_
          rintro e v4 ⟨rfl, hx⟩
          refine hK.out _ _ (hHeld.ext hx) (fun hHeld => ?_)
          clear hK K
          try simp only [Act.put, List.setIfInBounds_toArray, List.set_cons_zero, List.set_cons_succ]
          have hE := hE.tr hx
          have hr12 := hr12.ext hx
          clear hx
          refine wpAnyH_ready (rs := [13]) (by kernel_rfl) (by simp) ?_
          refine AllReadyH.cons rfl (fun K hK => ?_) AllReadyH.nil
          refine step_append_keep v4 (by kernel_rfl) (.tmp 37) (.tmp 39) 24 rfl w.heap.size 5 i0 Tryd.underlying24 hi0 hz0 hz1 hz2 gB d b j HK.out rfl (HO3.out.ext hE) _ ⟨v1.heap.size, 0, none⟩ 1 1 [cb] rfl rfl hr12 (by simp) (by rw [HK.out]; have := HJ.out; simp; omega) hHeld.2.2.size ?_
          intro A' c' x1 ho1 hg1 hb1
          have hh1 : HeldL w g8 (some ⟨gB, 0, none⟩) b x1 := HN.out _ _ hHeld hg1 hb1
          refine hK.out _ _ hh1 (fun hHeld => ?_)
          clear hK K hg1 hb1 hh1
          try simp only [Act.put, List.setIfInBounds_toArray, List.set_cons_zero, List.set_cons_succ]
          refine wpAnyH_ready (rs := [14]) (by kernel_rfl) (by simp) ?_
          refine AllReadyH.cons rfl (fun K hK => ?_) AllReadyH.nil
          go_simp
          refine (H14.out _ _ _ _ ho1.rb).mono ?_
          rintro e x2 ⟨rfl, hx⟩
          refine hK.out _ _ (hHeld.ext hx) (fun hHeld => ?_)
          clear hK K hx
          try simp only [Act.put, List.setIfInBounds_toArray, List.set_cons_zero, List.set_cons_succ]
          refine wpAnyH_ready (rs := [15]) (by kernel_rfl) (by simp) ?_
          refine AllReadyH.cons rfl (fun K hK => ?_) AllReadyH.nil
          refine step_eql_tab (by kernel_rfl) 26 26 (.tmp 36) (.tmp 41) rfl .u8 32 (sum kc (b ++ [cb])) (sum kc (b ++ [cb])) rfl rfl 5 Tryd.underlying26 Tryd.underlying5 size_u8 cells_u8 noGuard_dig (fun _ _ => rfl) ?_
          refine hK.out _ _ hHeld (fun _ => ?_)
          clear hK K
          try simp only [Act.put, List.setIfInBounds_toArray, List.set_cons_zero, List.set_cons_succ]
          refine wpAnyH_ready (rs := [16]) (by kernel_rfl) (by simp) ?_
          refine AllReadyH.cons rfl (fun K hK => ?_) AllReadyH.nil
          go_simp
          refine hK.out _ _ hHeld (fun _ => ?_)
          clear hK K
          try simp only [Act.put, List.setIfInBounds_toArray, List.set_cons_zero, List.set_cons_succ]
          refine wpAnyH_ready (rs := [17]) (by kernel_rfl) (by simp) ?_
          refine AllReadyH.cons rfl (fun K hK => ?_) AllReadyH.nil
          go_simp
          refine hK.out _ _ hHeld (fun _ => ?_)
          clear hK K
          try simp only [Act.put, List.setIfInBounds_toArray, List.set_cons_zero, List.set_cons_succ]
          refine wpAnyH_take_move 18 rfl (by kernel_rfl) (by kernel_rfl) (by kernel_rfl) (fun _ _ _ _ h => h) (by kernel_rfl) (.tmp 6) rfl (.slice (some ⟨gB, 0, none⟩) j d) rfl hHeld ?_
          refine wpAnyH_take_arr 21 rfl (by kernel_rfl) (by kernel_rfl) (by kernel_rfl) (fun _ _ _ _ h => h) (by kernel_rfl) 26 (.tmp 8) rfl g8 0 rfl .u8 32 (sum kc b) _ (fun _ hw => rangeAt_arr hw.1) Tryd.underlying26 size_dig hHeld ?_
          simp only [Act.put, List.setIfInBounds_toArray, List.set_cons_zero, List.set_cons_succ]
          refine wpAnyH_ready (rs := [19]) (by kernel_rfl) (by simp) ?_
          refine AllReadyH.cons rfl (fun K hK => ?_) AllReadyH.nil
          go_simp
          have hr19 := rows_three (T := 24) HK.out HKD.out hHeld.2.1
          refine hK.out _ _ (hHeld.ext (Ext.alloc _ _)) (fun hHeld => ?_)
          clear hK K
          try simp only [Act.put, List.setIfInBounds_toArray, List.set_cons_zero, List.set_cons_succ]
          refine wpAnyH_ready (rs := [20]) (by kernel_rfl) (by simp) ?_
          refine AllReadyH.cons rfl (fun K hK => ?_) AllReadyH.nil
          go_simp
          refine (H20.out _ _ hr19 hHeld).mono ?_
          rintro e x3 ⟨rfl, hx⟩
          refine hK.out _ _ (hHeld.ext hx) (fun hHeld => ?_)
          clear hK K hx hr19
          try simp only [Act.put, List.setIfInBounds_toArray, List.set_cons_zero, List.set_cons_succ]
          refine wpAnyH_ready (rs := [22]) (by kernel_rfl) (by simp) ?_
          refine AllReadyH.cons rfl (fun K hK => ?_) AllReadyH.nil
          refine step_eql_tab (by kernel_rfl) 26 26 (.tmp 47) (.tmp 48) rfl .u8 32 (sum kc b) (sum kc b) rfl rfl 5 Tryd.underlying26 Tryd.underlying5 size_u8 cells_u8 noGuard_dig (fun _ _ => rfl) ?_
          refine hK.out _ _ hHeld (fun _ => ?_)
          clear hK K
          try simp only [Act.put, List.setIfInBounds_toArray, List.set_cons_zero, List.set_cons_succ]
          refine wpAnyH_ready (rs := [23]) (by kernel_rfl) (by simp) ?_
          refine AllReadyH.cons rfl (fun K hK => ?_) AllReadyH.nil
          go_simp
          refine hK.out _ _ hHeld (fun _ => ?_)
          clear hK K
          try simp only [Act.put, List.setIfInBounds_toArray, List.set_cons_zero, List.set_cons_succ]
          refine wpAnyH_ready (rs := [24]) (by kernel_rfl) (by simp) ?_
          refine AllReadyH.cons rfl (fun K hK => ?_) AllReadyH.nil
          go_simp
          refine hK.out _ _ hHeld (fun _ => ?_)
          clear hK K
          try simp only [Act.put, List.setIfInBounds_toArray, List.set_cons_zero, List.set_cons_succ]
          refine wpAnyH_done (by kernel_rfl) ?_ _
          go_wp2_with fail
          go_ret
          exact ⟨rfl, hHeld.2.2⟩
      · skip
        go_simp
        have hHb := hHeld
        refine hK.out _ _ (hHeld.ext (Ext.alloc _ _)) (fun hHeld => ?_)
        clear hK K
        try simp only [Act.put, List.setIfInBounds_toArray, List.set_cons_zero, List.set_cons_succ]
        have hx : Ext vA (World.alloc vA (.cells #[.int .u8 (cb.toNat : Int)] 5)) := Ext.alloc _ _
        have hr12 := (RB.lit vA [cb] #[.int .u8 (cb.toNat : Int)] 5 rfl).more (S' := fun _ _ => True) (fun _ _ _ => trivial)
        obtain ⟨v1, hv1⟩ : ∃ x, x = World.alloc vA (.cells #[.int .u8 (cb.toNat : Int)] 5) := ⟨_, rfl⟩
        rw [← hv1] at hHeld hx hr12 ⊢
        have hE := hE.tr hx
        clear hv1 hx hHb
        refine wpAnyH_ready (rs := [7]) (by kernel_rfl) (by simp) ?_
        refine AllReadyH.cons rfl (fun K hK => ?_) AllReadyH.nil
        go_simp
        have hHb := hHeld
        refine hK.out _ _ (hHeld.ext (Ext.alloc _ _)) (fun hHeld => ?_)
        clear hK K
        try simp only [Act.put, List.setIfInBounds_toArray, List.set_cons_zero, List.set_cons_succ]
        have hx : Ext v1 (World.alloc v1 (.cells #[.int .u8 (cb.toNat : Int)] 5)) := Ext.alloc _ _
        have hr7 := (RB.lit v1 [cb] #[.int .u8 (cb.toNat : Int)] 5 rfl).more (S' := fun _ _ => True) (fun _ _ _ => trivial)
        obtain ⟨v2, hv2⟩ : ∃ x, x = World.alloc v1 (.cells #[.int .u8 (cb.toNat : Int)] 5) := ⟨_, rfl⟩
        rw [← hv2] at hHeld hx hr7 ⊢
        have hE := hE.tr hx
        have hr12 := hr12.ext hx
        clear hv2 hx hHb
        refine wpAnyH_ready (rs := [8]) (by kernel_rfl) (by simp) ?_
        refine AllReadyH.cons rfl (fun K hK => ?_) AllReadyH.nil
        go_simp
        have hHb := hHeld
        refine hK.out _ _ (hHeld.ext (Ext.alloc _ _)) (fun hHeld => ?_)
        clear hK K
        try simp only [Act.put, List.setIfInBounds_toArray, List.set_cons_zero, List.set_cons_succ]
        have hx : Ext v2 (World.alloc v2 (.cells #[.slice (some ⟨gB, 0, none⟩) j d, .slice (some ⟨v1.heap.size, 0, none⟩) 1 1] 24)) := Ext.alloc _ _
        have hr8 := rows_two (T := 24) HK.out HKD.out hHb.2.1 hr7
        obtain ⟨v3, hv3⟩ : ∃ x, x = World.alloc v2 (.cells #[.slice (some ⟨gB, 0, none⟩) j d, .slice (some ⟨v1.heap.size, 0, none⟩) 1 1] 24) := ⟨_, rfl⟩
        rw [← hv3] at hHeld hx hr8 ⊢
        have hE := hE.tr hx
        have hr12 := hr12.ext hx
        clear hv3 hx hHb
        refine wpAnyH_ready (rs := [9]) (by kernel_rfl) (by simp) ?_
        refine AllReadyH.cons rfl (fun K hK => ?_) AllReadyH.nil
        go_simp
        refine (H9.out _ _ hr8 hHeld).mono ?_
        rintro e v4 ⟨rfl, hx⟩
        refine hK.out _ _ (hHeld.ext hx) (fun hHeld => ?_)
        clear hK K
        try simp only [Act.put, List.setIfInBounds_toArray, List.set_cons_zero, List.set_cons_succ]
        have hE := hE.tr hx
        have hr12 := hr12.ext hx
        clear hx
        refine wpAnyH_ready (rs := [13]) (by kernel_rfl) (by simp) ?_
        refine AllReadyH.cons rfl (fun K hK => ?_) AllReadyH.nil
        refine step_append_keep v4 (by kernel_rfl) (.tmp 37) (.tmp 39) 24 rfl w.heap.size 5 i0 Tryd.underlying24 hi0 hz0 hz1 hz2 gB d b j HK.out rfl (HO3.out.ext hE) _ ⟨vA.heap.size, 0, none⟩ 1 1 [cb] rfl rfl hr12 (by simp) (by rw [HK.out]; have := HJ.out; simp; omega) hHeld.2.2.size ?_
        intro A' c' x1 ho1 hg1 hb1
        have hh1 : HeldL w g8 (some ⟨gB, 0, none⟩) b x1 := HN.out _ _ hHeld hg1 hb1
        refine hK.out _ _ hh1 (fun hHeld => ?_)
        clear hK K hg1 hb1 hh1
        try simp only [Act.put, List.setIfInBounds_toArray, List.set_cons_zero, List.set_cons_succ]
        refine wpAnyH_ready (rs := [14]) (by kernel_rfl) (by simp) ?_
        refine AllReadyH.cons rfl (fun K hK => ?_) AllReadyH.nil
        go_simp
        refine (H14.out _ _ _ _ ho1.rb).mono ?_
        rintro e x2 ⟨rfl, hx⟩
        refine hK.out _ _ (hHeld.ext hx) (fun hHeld => ?_)
        clear hK K hx
        try simp only [Act.put, List.setIfInBounds_toArray, List.set_cons_zero, List.set_cons_succ]
        refine wpAnyH_ready (rs := [15]) (by kernel_rfl) (by simp) ?_
        refine AllReadyH.cons rfl (fun K hK => ?_) AllReadyH.nil
        refine step_eql_tab (by kernel_rfl) 26 26 (.tmp 36) (.tmp 41) rfl .u8 32 (sum kc (b ++ [cb])) (sum kc (b ++ [cb])) rfl rfl 5 Tryd.underlying26 Tryd.underlying5 size_u8 cells_u8 noGuard_dig (fun _ _ => rfl) ?_
        refine hK.out _ _ hHeld (fun _ => ?_)
        clear hK K
        try simp only [Act.put, List.setIfInBounds_toArray, List.set_cons_zero, List.set_cons_succ]
        refine wpAnyH_ready (rs := [16]) (by kernel_rfl) (by simp) ?_
        refine AllReadyH.cons rfl (fun K hK => ?_) AllReadyH.nil
        go_simp
        refine hK.out _ _ hHeld (fun _ => ?_)
        clear hK K
        try simp only [Act.put, List.setIfInBounds_toArray, List.set_cons_zero, List.set_cons_succ]
        refine wpAnyH_ready (rs := [17]) (by kernel_rfl) (by simp) ?_
        refine AllReadyH.cons rfl (fun K hK => ?_) AllReadyH.nil
        go_simp
        refine hK.out _ _ hHeld (fun _ => ?_)
        clear hK K
        try simp only [Act.put, List.setIfInBounds_toArray, List.set_cons_zero, List.set_cons_succ]
        refine wpAnyH_take_move 18 rfl (by kernel_rfl) (by kernel_rfl) (by kernel_rfl) (fun _ _ _ _ h => h) (by kernel_rfl) (.tmp 6) rfl (.slice (some ⟨gB, 0, none⟩) j d) rfl hHeld ?_
        refine wpAnyH_take_arr 21 rfl (by kernel_rfl) (by kernel_rfl) (by kernel_rfl) (fun _ _ _ _ h => h) (by kernel_rfl) 26 (.tmp 8) rfl g8 0 rfl .u8 32 (sum kc b) _ (fun _ hw => rangeAt_arr hw.1) Tryd.underlying26 size_dig hHeld ?_
        simp only [Act.put, List.setIfInBounds_toArray, List.set_cons_zero, List.set_cons_succ]
        refine wpAnyH_ready (rs := [19]) (by kernel_rfl) (by simp) ?_
        refine AllReadyH.cons rfl (fun K hK => ?_) AllReadyH.nil
        go_simp
        have hr19 := rows_three (T := 24) HK.out HKD.out hHeld.2.1
        refine hK.out _ _ (hHeld.ext (Ext.alloc _ _)) (fun hHeld => ?_)
        clear hK K
        try simp only [Act.put, List.setIfInBounds_toArray, List.set_cons_zero, List.set_cons_succ]
        refine wpAnyH_ready (rs := [20]) (by kernel_rfl) (by simp) ?_
        refine AllReadyH.cons rfl (fun K hK => ?_) AllReadyH.nil
        go_simp
        refine (H20.out _ _ hr19 hHeld).mono ?_
        rintro e x3 ⟨rfl, hx⟩
        refine hK.out _ _ (hHeld.ext hx) (fun hHeld => ?_)
        clear hK K hx hr19
        try simp only [Act.put, List.setIfInBounds_toArray, List.set_cons_zero, List.set_cons_succ]
        refine wpAnyH_ready (rs := [22]) (by kernel_rfl) (by simp) ?_
        refine AllReadyH.cons rfl (fun K hK => ?_) AllReadyH.nil
        refine step_eql_tab (by kernel_rfl) 26 26 (.tmp 47) (.tmp 48) rfl .u8 32 (sum kc b) (sum kc b) rfl rfl 5 Tryd.underlying26 Tryd.underlying5 size_u8 cells_u8 noGuard_dig (fun _ _ => rfl) ?_
        refine hK.out _ _ hHeld (fun _ => ?_)
        clear hK K
        try simp only [Act.put, List.setIfInBounds_toArray, List.set_cons_zero, List.set_cons_succ]
        refine wpAnyH_ready (rs := [23]) (by kernel_rfl) (by simp) ?_
        refine AllReadyH.cons rfl (fun K hK => ?_) AllReadyH.nil
        go_simp
        refine hK.out _ _ hHeld (fun _ => ?_)
        clear hK K
        try simp only [Act.put, List.setIfInBounds_toArray, List.set_cons_zero, List.set_cons_succ]
        refine wpAnyH_ready (rs := [24]) (by kernel_rfl) (by simp) ?_
        refine AllReadyH.cons rfl (fun K hK => ?_) AllReadyH.nil
        go_simp
        refine hK.out _ _ hHeld (fun _ => ?_)
        clear hK K
        try simp only [Act.put, List.setIfInBounds_toArray, List.set_cons_zero, List.set_cons_succ]
        refine wpAnyH_done (by kernel_rfl) ?_ _
        go_wp2_with fail
        go_ret
        exact ⟨rfl, hHeld.2.2⟩
theorem shaLimits_walk (a b : Int) (w : World) (ha : (Lit.int .u8 a).wf = true) (hb : (Lit.int .u8 b).wf = true) (ht : Tab w) :
    Calls Tryd.prog 7 #[.int .u8 a, .int .u8 b] w fun e w' => e = .returned (.bool true) ∧ Ext w w' := by
  obtain ⟨h1, h2⟩ := bd_u8 ha
  obtain ⟨n, rfl⟩ := Int.eq_ofNat_of_zero_le h1
  obtain ⟨h3, h4⟩ := bd_u8 hb
  obtain ⟨m, rfl⟩ := Int.eq_ofNat_of_zero_le h3
  have hm : (UInt8.ofNat m).toNat = m := by
    rw [UInt8.toNat_ofNat']
    exact Nat.mod_eq_of_lt (by omega)
  have h := limits_go n (UInt8.ofNat m) (by omega) w ht
  rw [hm] at h
  exact h
end Go.Proofs.YtphifnknbaebkaaDoor
