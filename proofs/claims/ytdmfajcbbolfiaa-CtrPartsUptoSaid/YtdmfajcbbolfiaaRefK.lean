/-
  The reference's round keys.
-/
import Derived.Test.YtdmfajcbbolfiaaBoxB
import Derived.Test.YtdmfajcbbolfiaaAesG
import Derived.Deep.CutBlock
namespace Go.Proofs.Ytdmfajcbbolfiaa
open Go.RowKit
set_option linter.unusedVariables false
set_option linter.unusedSimpArgs false

theorem kf_byt {f : Bk} (h : Byt f) {i : Nat} : kf f i < 256 := kys_byt h _ _ (Nat.mod_lt _ (by decide))
/-- the column t of the definition -/
def tt (f : Bk) (i : Nat) : Nat → Nat := fun r => if i % 4 = 0 then sb (kf f (4 * (i - 1) + (r + 1) % 4)) ^^^ (if r = 0 then gp 2 (i / 4 - 1) else 0) else kf f (4 * (i - 1) + r)
theorem kf_low (f : Bk) {i : Nat} (hi : i < 16) : kf f i = f i := by
  unfold kf
  rw [show i / 16 = 0 by omega, show i % 16 = i by omega, kys]
theorem kf_rec (f : Bk) {i r : Nat} (h4 : 4 ≤ i) (hr : r < 4) : kf f (4 * i + r) = kf f (4 * (i - 4) + r) ^^^ tt f i r := by
  obtain ⟨m, hm⟩ : ∃ m, i / 4 = m + 1 := ⟨i / 4 - 1, by omega⟩
  unfold kf tt
  rw [show (4 * i + r) / 16 = m + 1 by omega, show (4 * i + r) % 16 = 4 * (i % 4) + r by omega, show (4 * (i - 4) + r) / 16 = m by omega, show (4 * (i - 4) + r) % 16 = 4 * (i % 4) + r by omega, kys, hm, Nat.add_sub_cancel]
  by_cases h : i % 4 = 0
  · rw [if_pos h, h, Nat.mul_zero, Nat.zero_add, nx_low _ _ hr, Nat.xor_assoc]
    unfold kf
    rw [show (4 * (i - 1) + (r + 1) % 4) / 16 = m by omega, show (4 * (i - 1) + (r + 1) % 4) % 16 = 12 + (r + 1) % 4 by omega]
  · rw [if_neg h, nx_high _ _ (by omega)]
    unfold kf
    rw [show (4 * (i - 1) + r) / 16 = m + 1 by omega, show (4 * (i - 1) + r) % 16 = 4 * (i % 4) + r - 4 by omega, kys]
theorem tt_byt {f : Bk} (h : Byt f) {i r : Nat} : tt f i r < 256 := by
  unfold tt
  split
  · refine xor8 (sb_lt _ (kf_byt h)) ?_
    split
    · exact gp_lt (by decide) _
    · decide
  · exact kf_byt h
theorem twice_ok : ∀ a < 256, (if 2 * a > 255 then 2 * a ^^^ 283 else 2 * a) = gm 2 a ∧ 2 * a ^^^ 283 < 1024 := by decide +kernel
set_option maxRecDepth 100000 in
theorem twice_c (a : Nat) (ha : a < 256) (w : World) : Calls Try.prog 40 #[.int .u8 a] w fun e w' => e = .returned (.int .u8 (gm 2 a : Nat)) ∧ w' = w := by
  have ht := (twice_ok a ha).1
  have hlt := gm_lt (show 2 < 256 by decide) ha
  by_cases h : 2 * a > 255
  · rw [if_pos h] at ht
    have h1 : (255 : Int) < 2 * (a : Int) := by omega
    have q := i64_xor_nat (2 * a) 283 (by omega) (by decide)
    rw [ht] at q
    push_cast at q
    have h2 : ((gm 2 a : Nat) : Int) % 256 = (gm 2 a : Nat) := by omega
    go_enter Try.func40, Try.ntmps40
    go_wp2_with fail
    go_ret
    exact ⟨rfl, rfl⟩
  · rw [if_neg h] at ht
    have h1 : ¬ (255 : Int) < 2 * (a : Int) := by omega
    have h2 : 2 * (a : Int) % 256 = 2 * (a : Int) := by omega
    go_enter Try.func40, Try.ntmps40
    go_wp2_with fail
    go_ret
    refine ⟨?_, rfl⟩
    rw [← ht]
    rfl
theorem zero_col (W : World) : (zeroValue 69).run Try.prog W = .ok (.agg (tabV .u8 176 (fun _ => 0))) W := by kernel_rfl
/-- the columns that are there: those before i -/
def col (f : Bk) (i : Nat) : Nat → Nat := fun j => if j / 4 < i then kf f j else 0
/-- and r bytes of column i -/
def colr (f : Bk) (i r : Nat) : Nat → Nat := fun j => if j < 4 * i + r then kf f j else 0
theorem col_r (f : Bk) (i : Nat) : col f i = colr f i 0 := by
  funext j
  unfold col colr
  by_cases h : j / 4 < i
  · rw [if_pos h, if_pos (by omega)]
  · rw [if_neg h, if_neg (by omega)]
theorem colr_4 (f : Bk) (i : Nat) : colr f i 4 = col f (i + 1) := by
  funext j
  unfold col colr
  by_cases h : j / 4 < i + 1
  · rw [if_pos h, if_pos (by omega)]
  · rw [if_neg h, if_neg (by omega)]
/-- the blocks of the reference's Keys -/
def Rk (w wr : World) (f : Bk) (F : Nat → Nat) : Prop :=
  Arr wr (w.heap.size + 1 + 1 + 1) 69 .u8 176 F ∧ Arr wr w.heap.size 22 .u8 16 f ∧ Arr wr (w.heap.size + 1) 42 .u8 256 sb ∧ Arr wr (w.heap.size + 1 + 1) 54 .u8 176 (fun _ => 0) ∧ Ext w wr
theorem Rk.ext {w wr wr' : World} {f : Bk} {F : Nat → Nat} (h : Rk w wr f F) (hx : Ext wr wr') : Rk w wr' f F := ⟨h.1.ext hx, h.2.1.ext hx, h.2.2.1.ext hx, h.2.2.2.1.ext hx, h.2.2.2.2.tr hx⟩
theorem Rk.set_ {w wr : World} {f : Bk} {i r : Nat} (h : Rk w wr f (colr f i r)) (hi : i < 44) (hr : r < 4) {v : Int} (hv : v = (kf f (4 * i + r) : Nat)) {off : Nat} (ho : off = 4 * i + r) : Rk w (wr.setCell ⟨w.heap.size + 1 + 1 + 1, off, none⟩ (.int .u8 v)) f (colr f i (r + 1)) := by
  subst ho
  refine ⟨h.1.to (by omega) (by rw [hv]; unfold colr; rw [if_pos (by omega)]) (fun j _ hne => ?_), h.2.1.other (by omega) _ _, h.2.2.1.other (by omega) _ _, h.2.2.2.1.other (by omega) _ _, ext_setCell h.2.2.2.2 (by simp; omega) _⟩
  unfold colr
  by_cases h1 : j < 4 * i + r
  · rw [if_pos h1, if_pos (by omega)]
  · rw [if_neg h1, if_neg (by omega)]
theorem Rk.grown {w wr wr' : World} {f : Bk} {F : Nat → Nat} (h : Rk w wr f F) {gv : Nat} (hg : w.heap.size + 1 + 1 + 1 < gv) (hx : wr.grownBy wr' (some gv)) : Rk w wr' f F :=
  ⟨grown_get hx h.1 (by simp; omega), grown_get hx h.2.1 (by simp; omega), grown_get hx h.2.2.1 (by simp; omega), grown_get hx h.2.2.2.1 (by simp; omega), grown_new h.2.2.2.2 hx (fun g hg' => by simp at hg'; omega)⟩
theorem Rk.congr {w wr : World} {f : Bk} {F F' : Nat → Nat} (h : Rk w wr f F) (hF : ∀ i, i < 176 → F i = F' i) : Rk w wr f F' := ⟨h.1.congr hF, h.2⟩
theorem Rk.far {w wr : World} {f : Bk} {F : Nat → Nat} (h : Rk w wr f F) {p : Addr} (hp : w.heap.size + 1 + 1 + 1 < p.block) (hps : p.spot = none) (u : Value) : Rk w (wr.setCell p u) f F := by
  obtain ⟨g, o, sp⟩ := p
  subst hps
  have hp' : w.heap.size + 1 + 1 + 1 < g := hp
  exact ⟨h.1.other (by omega) _ _, h.2.1.other (by omega) _ _, h.2.2.1.other (by omega) _ _, h.2.2.2.1.other (by omega) _ _, ext_setCell h.2.2.2.2 (by simp; omega) _⟩
theorem new4 (w : World) (o p q r : Obj) : ((((w.alloc o).alloc p).alloc q).alloc r).heap[w.heap.size]? = some o ∧ ((((w.alloc o).alloc p).alloc q).alloc r).heap[w.heap.size + 1]? = some p ∧
    ((((w.alloc o).alloc p).alloc q).alloc r).heap[w.heap.size + 1 + 1]? = some q ∧ ((((w.alloc o).alloc p).alloc q).alloc r).heap[w.heap.size + 1 + 1 + 1]? = some r := by
  obtain ⟨h1, h2, h3⟩ := new3 w o p q
  have x1 := (Ext.alloc (((w.alloc o).alloc p).alloc q) r)
  refine ⟨x1.get h1, x1.get h2, x1.get h3, ?_⟩
  have h := new_of (((w.alloc o).alloc p).alloc q) r
  rw [show (((w.alloc o).alloc p).alloc q).heap.size = w.heap.size + 1 + 1 + 1 by simp] at h
  exact h
theorem rk_start (w : World) (f : Bk) :
    Rk w ((((w.alloc (.cells (tabV .u8 16 f) 22)).alloc (.cells (tabV .u8 256 sb) 42)).alloc (.cells (tabV .u8 176 (fun _ => 0)) 54)).alloc (.cells (tabV .u8 176 (fun _ => 0)) 69)) f (col f 0) := by
  obtain ⟨h0, h1, h2, h3⟩ := new4 w (.cells (tabV .u8 16 f) 22) (.cells (tabV .u8 256 sb) 42) (.cells (tabV .u8 176 (fun _ => 0)) 54) (.cells (tabV .u8 176 (fun _ => 0)) 69)
  refine ⟨Arr.congr (f := fun _ => 0) h3 (fun i _ => ?_), h0, h1, h2, (((Ext.alloc _ _).tr (Ext.alloc _ _)).tr (Ext.alloc _ _)).tr (Ext.alloc _ _)⟩
  unfold col
  rw [if_neg (by omega)]

set_option maxRecDepth 100000 in
set_option maxHeartbeats 8000000 in
theorem rkeys_c (f : Bk) (hf : Byt f) (w : World) :
    Calls Try.prog 29 #[.agg (tabV .u8 16 f), .agg (tabV .u8 256 sb)] w fun e w' => e = .returned (.agg (tabV .u8 176 (kf f))) ∧ Ext w w' := by
  have HF := Lib.hid hf
  have zk := zero_ks
  have zc := zero_col
  clear hf
  go_enter Try.func29, Try.ntmps29
  go_wp2_with fail
  go_loopw [6, 7] (fun p v wr => ∃ i : Nat, i ≤ 44 ∧ v = .int .i64 i ∧ p = .int .u8 (gp 2 ((i + 3) / 4 - 1) : Nat) ∧ Rk w wr f (col f i)) (fun _ v _ => 44 - (intOf v).toNat)
  case atStart => exact ⟨0, by omega, rfl, by rw [gp]; rfl, rk_start w f⟩
  case round =>
    obtain ⟨i, hi, rfl, rfl, hR⟩ := hrel
    by_cases hlt : i < 44
    · have i1 : (i : Int) < 44 := by omega
      obtain ⟨pw, hpw⟩ : ∃ pw, pw = gp 2 ((i + 3) / 4 - 1) := ⟨_, rfl⟩
      rw [← hpw]
      have HPW := Lib.hid hpw
      clear hpw
      by_cases h4 : i < 4
      · have i4 : (i : Int) < 4 := by omega
        rw [col_r] at hR
        have HR := Lib.hid hR
        clear hR
        go_wp2_with fail
        go_loopw [8] (fun v wr => ∃ r : Nat, r ≤ 4 ∧ v = .int .i64 r ∧ Rk w wr f (colr f i r)) (fun v _ => 4 - (intOf v).toNat)
        case atStart => exact ⟨0, by omega, rfl, HR.out⟩
        case round =>
          obtain ⟨r, hr, rfl, hR⟩ := hrel
          by_cases hlr : r < 4
          · obtain ⟨wd, hwd⟩ : ∃ wd, wd = wr.drew := ⟨_, rfl⟩
            have hR1 := hR.ext (show Ext wr wd by rw [hwd]; exact Ext.drew _)
            have c0 := hR1.2.1.cell (i := 4 * i + r) (by omega)
            have c1 := hR1.1.cell (i := i * 4 + r) (by omega)
            have f1 := hR1.1.free (i * 4 + r)
            have q1 : IntKind.i64.wrap (4 * (i : Int)) = 4 * i := IntWalk.i64_in _ (by omega)
            have q2 : IntKind.i64.wrap (4 * (i : Int) + (r : Int)) = 4 * i + r := IntWalk.i64_in _ (by omega)
            have t1 : (4 * (i : Int) + (r : Int)).toNat = 4 * i + r := by omega
            have l1 : 4 * (i : Int) + (r : Int) < 16 := by omega
            have l2 : (r : Int) < 4 := by omega
            have HR1 := Lib.hid hR1
            have HWD := Lib.hid hwd
            clear hR hR1 hwd
            go_wp2_with fail
            refine wp_region_ord 9 (fun W => W = wd) (by kernel_rfl) (by kernel_rfl) (by decide) (by kernel_rfl) HWD.out.symm ?_
            simp only [List.take_succ_cons, List.take_zero, List.drop_succ_cons, List.drop_zero]
            repeat (refine wpTxt_stay ?_ (fun K hK => ?_) rfl ?_; rotate_left; (simp only [Act.put, List.setIfInBounds_toArray, List.set_cons_zero, List.set_cons_succ] at hK; go_simp; exact hK); simp only [Act.put, List.setIfInBounds_toArray, List.set_cons_zero, List.set_cons_succ])
            refine wpTxt_nil ?_
            rintro W rfl
            go_wp2_with fail
            refine ⟨⟨r + 1, by omega, by go_num, HR1.out.set_ hlt hlr (by rw [kf_low f (by omega)]) (by omega)⟩, ?_⟩
            simp only [intOf]
            omega
          · have e4 : r = 4 := by omega
            subst e4
            rw [colr_4] at hR
            have HR := Lib.hid hR
            clear hR
            go_wp2_with fail
            go_roundw
            case rel => exact ⟨i + 1, by omega, by go_num, by rw [HPW.out, show (i + 3) / 4 - 1 = 0 by omega, show (i + 1 + 3) / 4 - 1 = 0 by omega], HR.out⟩
            case measure => simp [intOf]; omega
      · have i4 : ¬ (i : Int) < 4 := by omega
        have l4 : 4 ≤ (i : Int) := by omega
        have l5 : 1 ≤ (i : Int) := by omega
        have q1 : IntKind.i64.wrap ((i : Int) - 1) = (i : Int) - 1 := IntWalk.i64_in _ (by omega)
        have t1 : ((i : Int) - 1).toNat = i - 1 := by omega
        have l1 : (i : Int) - 1 < 44 := by omega
        have l3 : 0 ≤ (i : Int) - 1 := by omega
        have hpart := hR.1.part (off := (i - 1) * 4) (n := 4) (by omega)
        rw [tabV_congr (f' := fun k => kf f (4 * (i - 1) + k)) (fun k hk => by
          unfold col
          rw [if_pos (by omega)]
          congr 1
          omega)] at hpart
        have HP := Lib.hid hpart
        have hR2 := hR
        rw [col_r] at hR2
        have HR := Lib.hid hR2
        have HZ := Lib.hid (Arr.new wr 68 .u8 4 (fun _ => 0))
        have HP2 : Hid ((wr.alloc (.cells (tabV .u8 4 (fun _ => 0)) 68)).rangeAt (w.heap.size + 1 + 1 + 1) ((i - 1) * 4) (tabV .u8 4 (fun k => kf f (4 * (i - 1) + k))).toList) := Lib.hid (World.rangeAt_alloc HP.out _)
        have HGL0 := Lib.hid (show w.heap.size + 1 + 1 + 1 < wr.heap.size from hR.1.lt)
        clear hpart hR hR2
        go_upto_region 11 with fail
        refine wp_region_lit ?_
        refine wpList_plain rfl fun K hK => ?_
        go_simp
        refine hK _ _ ?_
        clear hK K
        refine wpList_plain rfl fun K hK => ?_
        go_simp
        refine hK _ _ ?_
        clear hK K
        refine wpList_plain rfl fun K hK => ?_
        go_simp
        refine hK _ _ ?_
        clear hK K
        refine wpList_load_pt rfl 68 (.tmp 35) rfl (w.heap.size + 1 + 1 + 1) ((i - 1) * 4) rfl .u8 4 (fun k => kf f (4 * (i - 1) + k)) _ HP.out Try.underlying68 size_q ?_
        simp only [Act.put, List.setIfInBounds_toArray, List.set_cons_zero, List.set_cons_succ]
        refine wpList_plain rfl fun K hK => ?_
        go_simp
        refine hK _ _ ?_
        clear hK K
        refine wpList_store_arr' rfl rfl 68 (.tmp 9) (.tmp 36) rfl wr.heap.size .u8 4 (fun k => kf f (4 * (i - 1) + k)) rfl rfl 68 _ HZ.out size_q tabV_size ?_
        intro w2 hA2 hG2
        have HT2 := Lib.hid hA2
        have HR2 := Lib.hid ((HR.out.ext (Ext.alloc _ _)).grown HGL0.out hG2)
        clear hA2 hG2
        refine wpList_nil ?_
        obtain ⟨gt, hgt⟩ : ∃ gt, gt = wr.heap.size := ⟨_, rfl⟩
        rw [← hgt] at HT2 HGL0 ⊢
        have HGL := Lib.hid HGL0.out
        clear hgt HP HZ HP2 HR HGL0
        by_cases h40 : i % 4 = 0
        · have b40 := beq_t (show (i : Int) % 4 = 0 by omega)
          go_wp2_with fail
          obtain ⟨wd, hwd⟩ : ∃ wd, wd = w2.drew := ⟨_, rfl⟩
          have xd : Ext w2 wd := by rw [hwd]; exact Ext.drew _
          have hT1 := HT2.out.ext xd
          have hR1 := HR2.out.ext xd
          have hb : ∀ k, kf f (4 * (i - 1) + k) < 256 := fun k => kf_byt HF.out
          have a0 := hT1.cell (i := 0) (by decide)
          have a1 := hT1.cell (i := 1) (by decide)
          have a2 := hT1.cell (i := 2) (by decide)
          have a3 := hT1.cell (i := 3) (by decide)
          have b0 := hR1.2.2.1.cell (i := kf f (4 * (i - 1) + 0)) (hb 0)
          have b1 := hR1.2.2.1.cell (i := kf f (4 * (i - 1) + 1)) (hb 1)
          have b2 := hR1.2.2.1.cell (i := kf f (4 * (i - 1) + 2)) (hb 2)
          have b3 := hR1.2.2.1.cell (i := kf f (4 * (i - 1) + 3)) (hb 3)
          have htt : ∀ r, r < 4 → q4 (sb (kf f (4 * (i - 1) + 1)) ^^^ pw) (sb (kf f (4 * (i - 1) + 2))) (sb (kf f (4 * (i - 1) + 3))) (sb (kf f (4 * (i - 1) + 0))) r = tt f i r := by
            intro r hr
            unfold tt
            rw [if_pos h40]
            have hp := HPW.out
            rw [show (i + 3) / 4 - 1 = i / 4 - 1 by omega] at hp
            rcases (show r = 0 ∨ r = 1 ∨ r = 2 ∨ r = 3 by omega) with rfl | rfl | rfl | rfl
            · rw [if_pos rfl, ← hp]; rfl
            · rw [if_neg (by decide), Nat.xor_zero]; rfl
            · rw [if_neg (by decide), Nat.xor_zero]; rfl
            · rw [if_neg (by decide), Nat.xor_zero]; rfl
          have s0 := hb 0
          have s1 := hb 1
          have s2 := hb 2
          have s3 := hb 3
          obtain ⟨x0, hx0⟩ : ∃ x, x = kf f (4 * (i - 1) + 0) := ⟨_, rfl⟩
          obtain ⟨x1, hx1⟩ : ∃ x, x = kf f (4 * (i - 1) + 1) := ⟨_, rfl⟩
          obtain ⟨x2, hx2⟩ : ∃ x, x = kf f (4 * (i - 1) + 2) := ⟨_, rfl⟩
          obtain ⟨x3, hx3⟩ : ∃ x, x = kf f (4 * (i - 1) + 3) := ⟨_, rfl⟩
          rw [← hx0] at a0 b0 s0
          rw [← hx1] at a1 b1 s1
          rw [← hx2] at a2 b2 s2
          rw [← hx3] at a3 b3 s3
          rw [← hx0, ← hx1, ← hx2, ← hx3] at htt
          have hpl : pw < 256 := by rw [HPW.out]; exact gp_lt (by decide) _
          have q0 := u8_xor_nat _ _ (sb_lt x1 s1) hpl
          have k0 : (x0 : Int) < 256 := by omega
          have k1 : (x1 : Int) < 256 := by omega
          have k2 : (x2 : Int) < 256 := by omega
          have k3 : (x3 : Int) < 256 := by omega
          have hpw2 : gm 2 pw = gp 2 ((i + 1 + 3) / 4 - 1) := by
            rw [HPW.out, gm_comm (by decide) (gp_lt (by decide) _), show (i + 1 + 3) / 4 - 1 = ((i + 3) / 4 - 1) + 1 by omega, gp]
          have HTT := Lib.hid htt
          have HT1 := Lib.hid hT1
          have HR1 := Lib.hid hR1
          have HWD := Lib.hid hwd
          have HPW2 := Lib.hid hpw2
          clear hT1 hR1 hwd htt hpw2 hx0 hx1 hx2 hx3 hb xd HT2 HR2
          refine wp_region_ord 19 (fun W => W = wd) (by kernel_rfl) (by kernel_rfl) (by decide) (by kernel_rfl) HWD.out.symm ?_
          simp only [List.take_succ_cons, List.take_zero, List.drop_succ_cons, List.drop_zero]
          repeat (refine wpTxt_stay ?_ (fun K hK => ?_) rfl ?_; rotate_left; (simp only [Act.put, List.setIfInBounds_toArray, List.set_cons_zero, List.set_cons_succ] at hK; go_simp; exact hK); simp only [Act.put, List.setIfInBounds_toArray, List.set_cons_zero, List.set_cons_succ])
          refine wpTxt_nil ?_
          rintro W rfl
          go_wp2_with (refine wpList_store_arr' rfl rfl 68 (.tmp 9) (.tmp 58) rfl gt .u8 4 (q4 (sb x1 ^^^ pw) (sb x2) (sb x3) (sb x0)) rfl rfl 68 _ HT1.out size_q tabV_size ?_
                       intro w3 hA3 hG3
                       have HTN := Lib.hid hA3
                       have HRN := Lib.hid (HR1.out.grown HGL.out hG3)
                       clear hA3 hG3)
          refine (twice_c pw hpl _).mono ?_
          rintro e w4 ⟨rfl, rfl⟩
          clear a0 a1 a2 a3 b0 b1 b2 b3 q0 k0 k1 k2 k3 HT1 HR1 HWD
          go_wp2_with fail
          go_loopw [10] (fun v wi => ∃ r : Nat, r ≤ 4 ∧ v = .int .i64 r ∧ Rk w wi f (colr f i r) ∧ Arr wi gt 68 .u8 4 (q4 (sb x1 ^^^ pw) (sb x2) (sb x3) (sb x0))) (fun v _ => 4 - (intOf v).toNat)
          case atStart => exact ⟨0, by omega, rfl, HRN.out, HTN.out⟩
          case round =>
            obtain ⟨r, hr, rfl, hR, hT⟩ := hrel
            by_cases hlr : r < 4
            · obtain ⟨wd, hwd⟩ : ∃ wd, wd = wr.drew := ⟨_, rfl⟩
              have xd : Ext wr wd := by rw [hwd]; exact Ext.drew _
              have hR1 := hR.ext xd
              have hT1 := hT.ext xd
              have c0 := hR1.1.cell (i := (i - 4) * 4 + r) (by omega)
              have e0 : colr f i r ((i - 4) * 4 + r) = kf f (4 * (i - 4) + r) := by
                unfold colr
                rw [if_pos (by omega)]
                congr 1
                omega
              rw [e0] at c0
              have c1 := hR1.1.cell (i := i * 4 + r) (by omega)
              have f1 := hR1.1.free (i * 4 + r)
              have c2 := hT1.cell (i := r) hlr
              have e2 := HTT.out r hlr
              rw [e2] at c2
              have hk := kf_rec f (i := i) (r := r) (by omega) hlr
              have b0 := kf_byt HF.out (i := 4 * (i - 4) + r)
              have b2 := tt_byt HF.out (i := i) (r := r)
              have q0 := u8_xor_nat _ _ b0 b2
              rw [← hk] at q0
              obtain ⟨y, hy⟩ : ∃ y, y = kf f (4 * (i - 4) + r) := ⟨_, rfl⟩
              obtain ⟨z, hz⟩ : ∃ z, z = tt f i r := ⟨_, rfl⟩
              rw [← hy] at c0 q0
              rw [← hz] at c2 q0
              have q1 : IntKind.i64.wrap ((i : Int) - 4) = (i : Int) - 4 := IntWalk.i64_in _ (by omega)
              have t1 : ((i : Int) - 4).toNat = i - 4 := by omega
              have l1 : (i : Int) - 4 < 44 := by omega
              have l2 : (r : Int) < 4 := by omega
              have l3 : 0 ≤ (i : Int) - 4 := by omega
              have l4 : 4 ≤ (i : Int) := by omega
              have HR1 := Lib.hid hR1
              have HT1 := Lib.hid hT1
              have HWD := Lib.hid hwd
              clear hR hT hR1 hT1 hwd xd e0 e2 hk b0 b2 hy hz
              go_wp2_with fail
              refine wp_region_ord 13 (fun W => W = wd) (by kernel_rfl) (by kernel_rfl) (by decide) (by kernel_rfl) HWD.out.symm ?_
              simp only [List.take_succ_cons, List.take_zero, List.drop_succ_cons, List.drop_zero]
              repeat (refine wpTxt_stay ?_ (fun K hK => ?_) rfl ?_; rotate_left; (simp only [Act.put, List.setIfInBounds_toArray, List.set_cons_zero, List.set_cons_succ] at hK; go_simp; exact hK); simp only [Act.put, List.setIfInBounds_toArray, List.set_cons_zero, List.set_cons_succ])
              refine wpTxt_nil ?_
              rintro W rfl
              go_wp2_with fail
              refine ⟨⟨r + 1, by omega, by go_num, HR1.out.set_ hlt hlr rfl (by omega), HT1.out.other (by have := HGL.out; omega) _ _⟩, ?_⟩
              simp only [intOf]
              omega
            · have e4 : r = 4 := by omega
              subst e4
              rw [colr_4] at hR
              have HR := Lib.hid hR
              clear hR hT
              go_wp2_with fail
              go_roundw
              case rel => exact ⟨i + 1, by omega, by go_num, by rw [HPW2.out], HR.out⟩
              case measure => simp [intOf]; omega
        · have b40 := beq_f (show (i : Int) % 4 ≠ 0 by omega)
          have htt : ∀ r, r < 4 → (fun k => kf f (4 * (i - 1) + k)) r = tt f i r := by
            intro r hr
            unfold tt
            rw [if_neg h40]
          have HTT := Lib.hid htt
          have HTN := Lib.hid HT2.out
          have HRN := Lib.hid HR2.out
          have hpw2 : pw = gp 2 ((i + 1 + 3) / 4 - 1) := by rw [HPW.out, show (i + 1 + 3) / 4 - 1 = (i + 3) / 4 - 1 by omega]
          have HPW2 := Lib.hid hpw2
          clear htt hpw2
          go_wp2_with fail
          go_loopw [10] (fun v wi => ∃ r : Nat, r ≤ 4 ∧ v = .int .i64 r ∧ Rk w wi f (colr f i r) ∧ Arr wi gt 68 .u8 4 (fun k => kf f (4 * (i - 1) + k))) (fun v _ => 4 - (intOf v).toNat)
          case atStart => exact ⟨0, by omega, rfl, HRN.out, HTN.out⟩
          case round =>
            obtain ⟨r, hr, rfl, hR, hT⟩ := hrel
            by_cases hlr : r < 4
            · obtain ⟨wd, hwd⟩ : ∃ wd, wd = wr.drew := ⟨_, rfl⟩
              have xd : Ext wr wd := by rw [hwd]; exact Ext.drew _
              have hR1 := hR.ext xd
              have hT1 := hT.ext xd
              have c0 := hR1.1.cell (i := (i - 4) * 4 + r) (by omega)
              have e0 : colr f i r ((i - 4) * 4 + r) = kf f (4 * (i - 4) + r) := by
                unfold colr
                rw [if_pos (by omega)]
                congr 1
                omega
              rw [e0] at c0
              have c1 := hR1.1.cell (i := i * 4 + r) (by omega)
              have f1 := hR1.1.free (i * 4 + r)
              have c2 := hT1.cell (i := r) hlr
              have e2 := HTT.out r hlr
              rw [e2] at c2
              have hk := kf_rec f (i := i) (r := r) (by omega) hlr
              have b0 := kf_byt HF.out (i := 4 * (i - 4) + r)
              have b2 := tt_byt HF.out (i := i) (r := r)
              have q0 := u8_xor_nat _ _ b0 b2
              rw [← hk] at q0
              obtain ⟨y, hy⟩ : ∃ y, y = kf f (4 * (i - 4) + r) := ⟨_, rfl⟩
              obtain ⟨z, hz⟩ : ∃ z, z = tt f i r := ⟨_, rfl⟩
              rw [← hy] at c0 q0
              rw [← hz] at c2 q0
              have q1 : IntKind.i64.wrap ((i : Int) - 4) = (i : Int) - 4 := IntWalk.i64_in _ (by omega)
              have t1 : ((i : Int) - 4).toNat = i - 4 := by omega
              have l1 : (i : Int) - 4 < 44 := by omega
              have l2 : (r : Int) < 4 := by omega
              have l3 : 0 ≤ (i : Int) - 4 := by omega
              have l4 : 4 ≤ (i : Int) := by omega
              have HR1 := Lib.hid hR1
              have HT1 := Lib.hid hT1
              have HWD := Lib.hid hwd
              clear hR hT hR1 hT1 hwd xd e0 e2 hk b0 b2 hy hz
              go_wp2_with fail
              refine wp_region_ord 13 (fun W => W = wd) (by kernel_rfl) (by kernel_rfl) (by decide) (by kernel_rfl) HWD.out.symm ?_
              simp only [List.take_succ_cons, List.take_zero, List.drop_succ_cons, List.drop_zero]
              repeat (refine wpTxt_stay ?_ (fun K hK => ?_) rfl ?_; rotate_left; (simp only [Act.put, List.setIfInBounds_toArray, List.set_cons_zero, List.set_cons_succ] at hK; go_simp; exact hK); simp only [Act.put, List.setIfInBounds_toArray, List.set_cons_zero, List.set_cons_succ])
              refine wpTxt_nil ?_
              rintro W rfl
              go_wp2_with fail
              refine ⟨⟨r + 1, by omega, by go_num, HR1.out.set_ hlt hlr rfl (by omega), HT1.out.other (by have := HGL.out; omega) _ _⟩, ?_⟩
              simp only [intOf]
              omega
            · have e4 : r = 4 := by omega
              subst e4
              rw [colr_4] at hR
              have HR := Lib.hid hR
              clear hR hT
              go_wp2_with fail
              go_roundw
              case rel => exact ⟨i + 1, by omega, by go_num, by rw [HPW2.out], HR.out⟩
              case measure => simp [intOf]; omega
    · have e44 : i = 44 := by omega
      have i1 : ¬ (i : Int) < 44 := by omega
      have hR := hR
      rw [e44] at hR
      have HR := Lib.hid (hR.congr (F' := kf f) (fun j hj => by unfold col; rw [if_pos (by omega)]))
      have HGL := Lib.hid (show w.heap.size + 1 + 1 + 1 < wr.heap.size from hR.1.lt)
      have HZ := Lib.hid (Arr.new wr 54 .u8 176 (fun _ => 0))
      clear hR
      obtain ⟨pw, hpw⟩ : ∃ pw, pw = gp 2 ((i + 3) / 4 - 1) := ⟨_, rfl⟩
      rw [← hpw]
      clear hpw e44
      go_wp2_with fail
      obtain ⟨go, hgo⟩ : ∃ go, go = wr.heap.size := ⟨_, rfl⟩
      obtain ⟨w2, hw2⟩ : ∃ w2, w2 = wr.alloc (.cells (tabV .u8 176 (fun _ => 0)) 54) := ⟨_, rfl⟩
      have HR2 : Hid (Rk w w2 f (kf f)) := Lib.hid (by rw [hw2]; exact HR.out.ext (Ext.alloc _ _))
      have HO2 : Hid (Arr w2 go 54 .u8 176 (fun _ => 0)) := Lib.hid (by rw [hw2, hgo]; exact HZ.out)
      rw [← hgo] at HGL
      rw [← hgo, ← hw2]
      clear hgo hw2 HR HZ
      go_loopw [12] (fun v wi => ∃ j : Nat, j ≤ 176 ∧ v = .int .i64 j ∧ Arr wi go 54 .u8 176 (fun m => if m < j then kf f m else 0) ∧ Rk w wi f (kf f)) (fun v _ => 176 - (intOf v).toNat)
      case atStart => exact ⟨0, by omega, rfl, HO2.out.congr (fun m _ => by rw [if_neg (by omega)]), HR2.out⟩
      case round =>
        obtain ⟨j, hj, rfl, hO, hR⟩ := hrel
        by_cases hlj : j < 176
        · obtain ⟨wd, hwd⟩ : ∃ wd, wd = wr.drew := ⟨_, rfl⟩
          have xd : Ext wr wd := by rw [hwd]; exact Ext.drew _
          obtain ⟨a, ha⟩ : ∃ a, a = j / 16 := ⟨_, rfl⟩
          obtain ⟨b, hb⟩ : ∃ b, b = j % 16 := ⟨_, rfl⟩
          obtain ⟨c, hc⟩ : ∃ c, c = j / 4 := ⟨_, rfl⟩
          obtain ⟨d, hd⟩ : ∃ d, d = j % 4 := ⟨_, rfl⟩
          have hO1 := hO.ext xd
          have hR1 := hR.ext xd
          have c0 := hR1.1.cell (i := c * 4 + d) (by omega)
          rw [show kf f (c * 4 + d) = kf f j by congr 1; omega] at c0
          have c1 := hO1.cell (i := a * 16 + b) (by omega)
          have f1 := hO1.free (a * 16 + b)
          have m1 : (j : Int).tdiv 16 = (a : Int) := by rw [Int.tdiv_eq_ediv_of_nonneg (by omega)]; omega
          have m2 : (j : Int).tmod 16 = (b : Int) := by rw [Int.tmod_eq_emod_of_nonneg (by omega)]; omega
          have m3 : (j : Int).tdiv 4 = (c : Int) := by rw [Int.tdiv_eq_ediv_of_nonneg (by omega)]; omega
          have m4 : (j : Int).tmod 4 = (d : Int) := by rw [Int.tmod_eq_emod_of_nonneg (by omega)]; omega
          have n1 : (j : Int) / 16 = (a : Int) := by omega
          have n3 : (j : Int) / 4 = (c : Int) := by omega
          have q1 : IntKind.i64.wrap (a : Int) = (a : Int) := IntWalk.i64_in _ (by omega)
          have q3 : IntKind.i64.wrap (c : Int) = (c : Int) := IntWalk.i64_in _ (by omega)
          have k1 : (a : Int) < 11 := by omega
          have k2 : (b : Int) < 16 := by omega
          have k3 : (c : Int) < 44 := by omega
          have k4 : (d : Int) < 4 := by omega
          have k5 : (j : Int) < 176 := by omega
          obtain ⟨y, hy⟩ : ∃ y, y = kf f j := ⟨_, rfl⟩
          rw [← hy] at c0
          have HY := Lib.hid hy
          have HOFF := Lib.hid (show a * 16 + b = j by omega)
          have HO1 := Lib.hid hO1
          have HR1 := Lib.hid hR1
          have HWD := Lib.hid hwd
          clear hO hR hO1 hR1 hwd xd ha hb hc hd hy
          go_wp2_with fail
          refine wp_region_ord 12 (fun W => W = wd) (by kernel_rfl) (by kernel_rfl) (by decide) (by kernel_rfl) HWD.out.symm ?_
          simp only [List.take_succ_cons, List.take_zero, List.drop_succ_cons, List.drop_zero]
          repeat (refine wpTxt_stay ?_ (fun K hK => ?_) rfl ?_; rotate_left; (simp only [Act.put, List.setIfInBounds_toArray, List.set_cons_zero, List.set_cons_succ] at hK; go_simp; exact hK); simp only [Act.put, List.setIfInBounds_toArray, List.set_cons_zero, List.set_cons_succ])
          refine wpTxt_nil ?_
          rintro W rfl
          go_wp2_with fail
          have hoff := HOFF.out
          have hgl := HGL.out
          refine ⟨⟨j + 1, by omega, by go_num, HO1.out.to (by omega) (by rw [if_pos (by omega), HY.out, hoff]) (fun m _ hne => ?_), HR1.out.far hgl rfl _⟩, ?_⟩
          · by_cases hm : m < j
            · rw [if_pos hm, if_pos (by omega)]
            · rw [if_neg hm, if_neg (by omega)]
          · simp only [intOf]
            omega
        · have e176 : j = 176 := by omega
          subst e176
          have HO := Lib.hid (hO.congr (f' := kf f) (fun m hm => by rw [if_pos hm]))
          have HR := Lib.hid hR
          clear hO hR
          go_wp2_with (first
            | refine wpList_load_row rfl 54 (.tmp 11) rfl go rfl 54 (tabV .u8 176 (kf f)) (0, 0) _ HO.out Try.underlying54 rfl (by rw [tabV_size]; exact size_ks) ?_
            | (refine wpList_store_arr' rfl rfl 54 (.tmp 4) (.tmp 96) rfl (w.heap.size + 1 + 1) .u8 176 (kf f) rfl rfl 54 _ HR.out.2.2.2.1 size_ks tabV_size ?_; intro w5 hA5 hG5))
          refine bodyPost_ret (v := .agg (tabV .u8 176 (kf f))) ?_ rfl ⟨rfl, grown_new HR.out.2.2.2.2 hG5 (fun g hg => by simp at hg; omega)⟩
          exact results_cell_row rfl _ _ _ _ _ _ _ rfl hA5 Try.underlying54 rfl (by rw [tabV_size]; exact size_ks)
end Go.Proofs.Ytdmfajcbbolfiaa
