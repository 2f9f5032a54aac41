/-
  Package ctr: the blocks of a part of the stream are yielded.
-/
import Derived.Test.YtdmfajcbbolfiaaCtrB
namespace Go.Proofs.Ytdmfajcbbolfiaa
open Go.RowKit
set_option linter.unusedVariables false
set_option linter.unusedSimpArgs false

/-- a cell that holds an integer -/
def Num (w : World) (g : Nat) (t : TypeId) (n : Nat) : Prop := w.heap[g]? = some (.cells #[.int .i64 (n : Nat)] t (0, 0))
theorem Num.ext {w w' : World} {g : Nat} {t : TypeId} {n : Nat} (h : Num w g t n) (hx : Ext w w') : Num w' g t n := hx.get h
theorem Num.cell {w : World} {g : Nat} {t : TypeId} {n : Nat} (h : Num w g t n) : w.cell? ⟨g, 0, none⟩ = some (.int .i64 (n : Nat)) := by unfold Num at h; rw [cells_of h]; rfl

set_option maxRecDepth 100000 in
theorem blocks_c (key nonce : Nat → Nat) (at_ n : Nat) (w : World) :
    Calls Try.prog 25 #[.agg (tabV .u8 16 key), .agg (tabV .u8 8 nonce), .int .i64 (at_ : Nat), .int .i64 (n : Nat)] w fun e w' =>
      e = .returned (.func (.func 33) #[] #[.pointer (some ⟨w.heap.size + 2, 0, none⟩), .pointer (some ⟨w.heap.size + 3, 0, none⟩), .pointer (some ⟨w.heap.size, 0, none⟩), .pointer (some ⟨w.heap.size + 1, 0, none⟩)]) ∧
      Arr w' w.heap.size 22 .u8 16 key ∧ Arr w' (w.heap.size + 1) 23 .u8 8 nonce ∧ Num w' (w.heap.size + 2) 3 at_ ∧ Num w' (w.heap.size + 3) 3 n ∧ Ext w w' ∧ w'.heap.size = w.heap.size + 4 := by
  obtain ⟨W, hW⟩ : ∃ W, W = (((w.alloc (.cells (tabV .u8 16 key) 22)).alloc (.cells (tabV .u8 8 nonce) 23)).alloc (.cells #[.int .i64 (at_ : Nat)] 3)).alloc (.cells #[.int .i64 (n : Nat)] 3) := ⟨_, rfl⟩
  have hx : Ext w W := by rw [hW]; exact (((Ext.alloc _ _).tr (Ext.alloc _ _)).tr (Ext.alloc _ _)).tr (Ext.alloc _ _)
  obtain ⟨h0, h1, h2⟩ := new3 w (.cells (tabV .u8 16 key) 22) (.cells (tabV .u8 8 nonce) 23) (.cells #[.int .i64 (at_ : Nat)] 3)
  have H0 := Lib.hid (show Arr W w.heap.size 22 .u8 16 key by rw [hW]; exact (Ext.alloc _ _).get h0)
  have H1 := Lib.hid (show Arr W (w.heap.size + 1) 23 .u8 8 nonce by rw [hW]; exact (Ext.alloc _ _).get h1)
  have H2 := Lib.hid (show Num W (w.heap.size + 2) 3 at_ by rw [hW]; exact (Ext.alloc _ _).get h2)
  have h3 : Num W (w.heap.size + 3) 3 n := by
    rw [hW]
    have := new_of (((w.alloc (.cells (tabV .u8 16 key) 22)).alloc (.cells (tabV .u8 8 nonce) 23)).alloc (.cells #[.int .i64 (at_ : Nat)] 3)) (.cells #[.int .i64 (n : Nat)] 3)
    rwa [show (((w.alloc (.cells (tabV .u8 16 key) 22)).alloc (.cells (tabV .u8 8 nonce) 23)).alloc (.cells #[.int .i64 (at_ : Nat)] 3)).heap.size = w.heap.size + 3 by simp] at this
  have H3 := Lib.hid h3
  have HX := Lib.hid hx
  have HZ := Lib.hid (show W.heap.size = w.heap.size + 4 by rw [hW]; simp)
  have HW := Lib.hid hW
  clear hx h0 h1 h2 h3 hW
  go_enter Try.func25, Try.ntmps25
  go_wp2_with fail
  go_ret
  rw [← HW.out]
  exact ⟨rfl, H0.out, H1.out, H2.out, H3.out, HX.out, HZ.out⟩

/-- what a round must keep: the cells that the iterator reads -/
def Mid (kb nb : Nat) (W W' : World) : Prop := W'.heap[kb]? = W.heap[kb]? ∧ W'.heap[nb]? = W.heap[nb]?
def encs (x : CB) : Array Value := #[.int .i64 (x.1.1 : Nat), .agg (tabV .u8 16 x.1.2)]
theorem abide_ext {β : Type} {B : Nat} {J : β → World → Prop} (hJ : AbidesFrom B J) {s : β} {W W' : World} (h : J s W) (hx : Ext W W') : J s W' := hJ s W W' none h (hx.grown none) (fun r e => by cases e)

set_option maxRecDepth 100000 in
set_option maxHeartbeats 2000000 in
theorem blocks_stops (kb nb ab eb m : Nat) (key nonce : Nat → Nat) (hk : Byt key) (hn : Byt8 nonce) (at_ n : Nat) (hb : at_ + n ≤ 2199023255552) (w0 : World)
    (h1 : Arr w0 kb 22 .u8 16 key) (h2 : Arr w0 nb 23 .u8 8 nonce) (h3 : Num w0 ab 3 at_) (h4 : Num w0 eb 3 n) :
    SeqStopsK Fence.wide m Try.prog 33 #[.pointer (some ⟨ab, 0, none⟩), .pointer (some ⟨eb, 0, none⟩), .pointer (some ⟨kb, 0, none⟩), .pointer (some ⟨nb, 0, none⟩)] encs (Mid kb nb)
      (fun xs => xs = bl key nonce hk hn (at_ + n) at_) (fun _ => True) (bl key nonce hk hn (at_ + n) at_).length w0 := by
  intro l J Jx W hW hJ hJx hY h0
  have hx : Ext w0 W := hW
  have HA := Lib.hid (h1.ext hx)
  have HN := Lib.hid (h2.ext hx)
  have hca := (h3.ext hx).cell
  have hce := (h4.ext hx).cell
  have HJ := Lib.hid hJ
  have HY := Lib.hid hY
  have H0 := Lib.hid h0
  clear hW hJ hJx hY h0 h1 h2 h3 h4 hx
  refine callsIn_of_wp Try.func33 rfl trivial ?_ rfl
  simp only [Try.ntmps33, List.size_toArray, List.length_cons, List.length_nil, Nat.reduceAdd, Nat.reduceSub, Array.replicate_succ, Array.replicate_zero, List.push_toArray, List.append_toArray, List.nil_append, List.cons_append]
  refine wpIn_seq_k fun K hK => ?_
  obtain ⟨wd, hwd⟩ : ∃ wd, wd = W.drew := ⟨_, rfl⟩
  have xd : Ext W wd := by rw [hwd]; exact Ext.drew _
  have HA := Lib.hid (HA.out.ext xd)
  have HN := Lib.hid (HN.out.ext xd)
  have H0 := Lib.hid (abide_ext HJ.out H0.out xd)
  have hca' : wd.cell? ⟨ab, 0, none⟩ = some (.int .i64 (at_ : Nat)) := by rw [hwd]; exact hca
  have hce' : wd.cell? ⟨eb, 0, none⟩ = some (.int .i64 (n : Nat)) := by rw [hwd]; exact hce
  have HWD := Lib.hid hwd
  have q1 : IntKind.i64.wrap ((at_ : Int) + (n : Int)) = ((at_ + n : Nat) : Int) := by rw [IntWalk.i64_in _ (by omega)]; omega
  clear hca hce xd hwd
  refine region_ord_in (R := K) wd_wide 6 (fun V => V = wd) (by kernel_rfl) (fun _ _ h => h) (by kernel_rfl) (by kernel_rfl) (by decide) (by kernel_rfl) HWD.out.symm ?_
  simp only [List.take_succ_cons, List.take_zero, List.drop_succ_cons, List.drop_zero]
  repeat (refine wpTxt_stay ?_ (fun K hK => ?_) rfl ?_; rotate_left; (simp only [Act.put, List.setIfInBounds_toArray, List.set_cons_zero, List.set_cons_succ] at hK; go_simp; exact hK); simp only [Act.put, List.setIfInBounds_toArray, List.set_cons_zero, List.set_cons_succ])
  refine wpTxt_nil ?_
  rintro V rfl
  refine ⟨rfl, hK _ _ ?_⟩
  clear hK HWD hca' hce'
  gi_wp2_with fail
  gi_loopw [6] (fun v wr => ∃ (nx : Nat) (pre : List CB), v = .int .i64 nx ∧ nx ≤ at_ + n + 16 ∧ pre ++ bl key nonce hk hn (at_ + n) nx = bl key nonce hk hn (at_ + n) at_ ∧ J pre wr ∧ Arr wr kb 22 .u8 16 key ∧ Arr wr nb 23 .u8 8 nonce) (fun v _ => at_ + n + 16 - (intOf v).toNat)
  case atStart => exact ⟨at_, [], rfl, by omega, rfl, H0.out, HA.out, HN.out⟩
  case round =>
    obtain ⟨nx, pre, rfl, hnx, hpre, hj, hA, hN⟩ := hrel
    have HP := Lib.hid hpre
    have HJ0 := Lib.hid hj
    have HA1 := Lib.hid hA
    have HN1 := Lib.hid hN
    clear hpre hj hA hN
    by_cases hlt : nx < at_ + n
    · have i1 : (nx : Int) < (at_ : Int) + (n : Int) := by omega
      have hc : Calls Try.prog 18 #[.agg (tabV .u8 16 key), .agg (tabV .u8 8 nonce), .int .u64 ((nx : Int) / 16)] wr fun e w' => e = .returned (.agg (tabV .u8 16 (cblk key nonce (nx / 16)))) ∧ Ext wr w' := by
        have := block_c key nonce (nx / 16) hk hn (by omega) wr
        rwa [show ((nx / 16 : Nat) : Int) = (nx : Int) / 16 by omega] at this
      have HC := Lib.hid hc
      clear hc
      have q2 : IntKind.u64.wrap ((nx : Int) / 16) = ((nx / 16 : Nat) : Int) := by rw [IntKind.wrap_u64]; omega
      refine wpIn_seq_k fun K1 hK1 => ?_
      refine wpIn_seq_k fun K2 hK2 => ?_
      refine region_in (R := K2) wd_wide (by kernel_rfl) (fun _ _ h => h) ?_
      go_wp2_with fail
      refine ⟨rfl, hK2 _ _ ?_⟩
      refine wpIn_cond_true rfl ?_
      refine wpIn_skip ?_
      refine hK1 _ _ ?_
      clear hK1 hK2
      refine wpIn_seq_k fun K3 hK3 => ?_
      refine wpIn_block ?_
      refine wpIn_seq_k fun K4 hK4 => ?_
      refine region_in2 wd_wide 9 (by kernel_rfl) ?_
      simp only [List.take_succ_cons, List.take_zero, List.drop_succ_cons, List.drop_zero]
      go_wp2_with (first
        | refine wpList_load_arr rfl 22 (.tmp 3) rfl kb rfl 22 .u8 16 key _ HA1.out Try.underlying22 size_bk ?_
        | refine wpList_load_arr rfl 23 (.tmp 4) rfl nb rfl 23 .u8 8 nonce _ HN1.out Try.underlying23 size_nc ?_)
      refine HC.out.mono ?_
      rintro e w1 ⟨rfl, hx1⟩
      go_wp2_with fail
      refine ⟨rfl, ?_⟩
      have hbl := bl_lt hk hn hlt
      have hle : pre.length < (bl key nonce hk hn (at_ + n) at_).length := by rw [← HP.out, hbl]; simp
      obtain ⟨fn, tmps, assign, body, hy, hR⟩ := HY.out pre (cbm key nonce hk hn nx) w1 (abide_ext HJ.out HJ0.out hx1) hle
      have hy' : (Instr.yield l #[.int .i64 ((nx : Int) % 16), .agg (tabV .u8 16 (cblk key nonce (nx / 16)))]).run Try.prog w1 = .ok (.round l fn tmps assign body) w1 := hy
      have HR := Lib.hid hR
      have HBL := Lib.hid hbl
      have HX1 := Lib.hid hx1
      clear hy hR hbl hx1 hle HC
      gi_wp2_with fail
      refine ⟨fun h => (by simp [Fence.wide] at h), HR.out.mono ?_⟩
      rintro e w2 (⟨rfl, hj2, hm2⟩ | ⟨rfl, hj2⟩)
      · have HJ2 := Lib.hid hj2
        have HA2 := Lib.hid (show Arr w2 kb 22 .u8 16 key from hm2.1.trans (HX1.out.get HA1.out))
        have HN2 := Lib.hid (show Arr w2 nb 23 .u8 8 nonce from hm2.2.trans (HX1.out.get HN1.out))
        clear hj2 hm2 HR hy'
        have q3 : IntKind.i64.wrap (16 - (nx : Int) % 16) = 16 - (nx : Int) % 16 := IntWalk.i64_in _ (by omega)
        have q4 : IntKind.i64.wrap ((nx : Int) + (16 - (nx : Int) % 16)) = (nx : Int) + (16 - (nx : Int) % 16) := IntWalk.i64_in _ (by omega)
        gi_wp2_with fail
        refine ⟨⟨nx + (16 - nx % 16), pre ++ [cbm key nonce hk hn nx], by congr 1; omega, by omega, ?_, HJ2.out, HA2.out, HN2.out⟩, by simp only [intOf]; omega⟩
        rw [List.append_assoc, List.singleton_append, ← HBL.out]
        exact HP.out
      · have HJ2 := Lib.hid hj2
        clear hj2 HR hy'
        gi_wp2_with fail
        exact bodyPost_ret (results_none rfl _ _ _) rfl ⟨⟨_, rfl⟩, .inr ⟨_, trivial, HJ2.out⟩⟩
    · have i1 : ¬ (nx : Int) < (at_ : Int) + (n : Int) := by omega
      gi_wp2_with fail
      go_end0
      have h := HP.out
      rw [bl_ge hk hn (by omega), List.append_nil] at h
      rw [← h]
      exact ⟨⟨_, rfl⟩, .inl HJ0.out⟩
end Go.Proofs.Ytdmfajcbbolfiaa
