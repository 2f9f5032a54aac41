/-
  Streams of blocks in plain numbers: the block of a nonce and a number, the bytes of a stream, and the list of blocks from which a part of it is cut.
  Package ctr: a block of the stream.
  A region in a round of a range over a function, or ahead of a call of yield, is walked by the laws of plain walks.
  Package ctr: the blocks of a part of the stream are yielded.
  Package ctr: n bytes of the stream.
  Package ctr: Stream; ciphers: New, Used.
  Package ctr: Next and Crypt.
-/
import Derived.Test.YtagegigffohcbaaGreatDoorMB
import Derived.Laws.CopyOwn
import Derived.RangeFuncNested
import Derived.RangeFuncLeaves
import Derived.OrdersIn
import Derived.OwnWalkIn
import Derived.TacticsInMore
import Derived.LoopNIn
import Derived.LoopIn
import Derived.OwnWalk
import Derived.Shelf.Abstract
import Derived.RangeFuncBound
set_option linter.unusedVariables false
set_option linter.unusedSimpArgs false
namespace Go.Proofs.YtagegigffohcbaaGreatDoor
open Go.RowKit
set_option linter.unusedVariables false
set_option linter.unusedSimpArgs false

/-- the nonce and the number i, highest byte first -/
def cin (nonce : Nat → Nat) (i : Nat) : Bk := fun j => if j < 8 then nonce j else i / 256 ^ (15 - j) % 256
/-- the block i of the stream -/
def cblk (key nonce : Nat → Nat) (i : Nat) : Bk := enc key (cin nonce i)
/-- the byte p of the stream -/
def strb (key nonce : Nat → Nat) (p : Nat) : Nat := cblk key nonce (p / 16) (p % 16)
/-- n bytes of the stream from at on -/
def strm (key nonce : Nat → Nat) (at_ n : Nat) : List UInt8 := (List.range n).map fun j => UInt8.ofNat (strb key nonce (at_ + j))
def Byt8 (f : Nat → Nat) : Prop := ∀ i, i < 8 → f i < 256
theorem cin_byt {nonce : Nat → Nat} (h : Byt8 nonce) (i : Nat) : Byt (cin nonce i) := fun j hj => by
  unfold cin
  split
  · exact h j (by omega)
  · exact Nat.mod_lt _ (by decide)
theorem cblk_byt {key nonce : Nat → Nat} (hk : Byt key) (h : Byt8 nonce) (i : Nat) : Byt (cblk key nonce i) := enc_byt hk (cin_byt h i)
theorem strb_lt {key nonce : Nat → Nat} (hk : Byt key) (h : Byt8 nonce) (p : Nat) : strb key nonce p < 256 := cblk_byt hk h _ _ (Nat.mod_lt _ (by decide))
theorem strm_len (key nonce : Nat → Nat) (at_ n : Nat) : (strm key nonce at_ n).length = n := by simp [strm]
theorem strm_zero (key nonce : Nat → Nat) (at_ : Nat) : strm key nonce at_ 0 = [] := rfl
theorem strm_succ (key nonce : Nat → Nat) (at_ n : Nat) : strm key nonce at_ (n + 1) = strm key nonce at_ n ++ [UInt8.ofNat (strb key nonce (at_ + n))] := by
  simp [strm, List.range_succ]
theorem strm_add (key nonce : Nat → Nat) (at_ n m : Nat) : strm key nonce at_ (n + m) = strm key nonce at_ n ++ strm key nonce (at_ + n) m := by
  induction m with
  | zero => rw [strm_zero, List.append_nil, Nat.add_zero]
  | succ m ih => rw [← Nat.add_assoc, strm_succ, ih, strm_succ, List.append_assoc, Nat.add_assoc]
theorem strm_get {key nonce : Nat → Nat} {at_ n i : Nat} (h : i < n) : (strm key nonce at_ n)[i]? = some (UInt8.ofNat (strb key nonce (at_ + i))) := by simp [strm, h]

/-! ## the blocks that are yielded -/
abbrev CB := { x : Nat × (Nat → Nat) // x.1 < 16 ∧ Byt x.2 }
def cbm (key nonce : Nat → Nat) (hk : Byt key) (h : Byt8 nonce) (nx : Nat) : CB := ⟨(nx % 16, cblk key nonce (nx / 16)), Nat.mod_lt _ (by decide), cblk_byt hk h _⟩
/-- the blocks from the byte nx on, up to the byte en; no more than c -/
def blf (key nonce : Nat → Nat) (hk : Byt key) (h : Byt8 nonce) (en : Nat) : Nat → Nat → List CB
  | 0, _ => []
  | c + 1, nx => if nx < en then cbm key nonce hk h nx :: blf key nonce hk h en c (nx + (16 - nx % 16)) else []
theorem blf_more (key nonce : Nat → Nat) (hk : Byt key) (h : Byt8 nonce) (en : Nat) : ∀ (c d nx : Nat), en ≤ nx + c → en ≤ nx + d → blf key nonce hk h en c nx = blf key nonce hk h en d nx
  | 0, 0, nx, _, _ => rfl
  | 0, d + 1, nx, h1, _ => by rw [blf, blf, if_neg (by omega)]
  | c + 1, 0, nx, _, h2 => by rw [blf, blf, if_neg (by omega)]
  | c + 1, d + 1, nx, h1, h2 => by
    rw [blf, blf]
    split
    · rw [blf_more key nonce hk h en c d _ (by omega) (by omega)]
    · rfl
def bks (key nonce : Nat → Nat) (hk : Byt key) (h : Byt8 nonce) (en nx : Nat) : List CB := blf key nonce hk h en (en - nx) nx
theorem bl_lt {key nonce : Nat → Nat} (hk : Byt key) (h : Byt8 nonce) {en nx : Nat} (hl : nx < en) : bks key nonce hk h en nx = cbm key nonce hk h nx :: bks key nonce hk h en (nx + (16 - nx % 16)) := by
  unfold bks
  obtain ⟨c, hc⟩ : ∃ c, en - nx = c + 1 := ⟨en - nx - 1, by omega⟩
  rw [hc, blf, if_pos hl, blf_more key nonce hk h en c (en - (nx + (16 - nx % 16))) _ (by omega) (by omega)]
theorem bl_ge {key nonce : Nat → Nat} (hk : Byt key) (h : Byt8 nonce) {en nx : Nat} (hl : en ≤ nx) : bks key nonce hk h en nx = [] := by
  unfold bks
  rw [show en - nx = 0 by omega, blf]

/-! ## the bytes that are cut from them -/
/-- bytes a, a + 1 .. of a block, c of them -/
def cut (f : Nat → Nat) (a c : Nat) : List UInt8 := (List.range c).map fun j => UInt8.ofNat (f (a + j))
theorem cut_len (f : Nat → Nat) (a c : Nat) : (cut f a c).length = c := by simp [cut]
theorem cut_get {f : Nat → Nat} {a c i : Nat} (h : i < c) : (cut f a c)[i]? = some (UInt8.ofNat (f (a + i))) := by simp [cut, h]
/-- how many bytes of a block come to k bytes of n -/
def hmc (n k first : Nat) : Nat := min 16 (first + (n - k)) - first
def ctx (n : Nat) (acc : List UInt8) (x : CB) : List UInt8 := acc ++ cut x.1.2 x.1.1 (hmc n acc.length x.1.1)
def ct (n : Nat) (xs : List CB) : List UInt8 := xs.foldl (ctx n) []
theorem ct_snoc (n : Nat) (xs : List CB) (x : CB) : ct n (xs ++ [x]) = ct n xs ++ cut x.1.2 x.1.1 (hmc n (ct n xs).length x.1.1) := by
  unfold ct
  rw [List.foldl_append]
  rfl
theorem ct_nil (n : Nat) : ct n [] = [] := rfl
theorem ct_le (n : Nat) (xs : List CB) : (ct n xs).length ≤ n := by
  have key : ∀ (xs : List CB) (acc : List UInt8), acc.length ≤ n → (xs.foldl (ctx n) acc).length ≤ n := by
    intro xs
    induction xs with
    | nil => exact fun acc h => h
    | cons x xs ih =>
      intro acc h
      refine ih _ ?_
      unfold ctx
      rw [List.length_append, cut_len]
      unfold hmc
      omega
  exact key xs [] (Nat.zero_le _)
theorem cut_strm {key nonce : Nat → Nat} (nx c : Nat) (h : nx % 16 + c ≤ 16) : cut (cblk key nonce (nx / 16)) (nx % 16) c = strm key nonce nx c := by
  unfold cut strm
  refine List.map_congr_left fun j hj => ?_
  rw [List.mem_range] at hj
  unfold strb
  rw [show (nx + j) / 16 = nx / 16 by omega, show (nx + j) % 16 = nx % 16 + j by omega]
theorem ct_go (key nonce : Nat → Nat) (hk : Byt key) (h : Byt8 nonce) (at_ n : Nat) : ∀ (c nx k : Nat), at_ + n - nx ≤ c → at_ ≤ nx → k = min n (nx - at_) → (bks key nonce hk h (at_ + n) nx).foldl (ctx n) (strm key nonce at_ k) = strm key nonce at_ n := by
  intro c
  induction c with
  | zero =>
    intro nx k hc hn he
    rw [bl_ge hk h (by omega), show k = n by omega]
    rfl
  | succ c ih =>
    intro nx k hc hn he
    by_cases hl : nx < at_ + n
    · rw [bl_lt hk h hl, List.foldl_cons]
      have hx : ctx n (strm key nonce at_ k) (cbm key nonce hk h nx) = strm key nonce at_ (min n (nx + (16 - nx % 16) - at_)) := by
        unfold ctx
        rw [strm_len]
        show _ ++ cut (cblk key nonce (nx / 16)) (nx % 16) (hmc n k (nx % 16)) = _
        have hh : hmc n k (nx % 16) = min n (nx + (16 - nx % 16) - at_) - k := by unfold hmc; omega
        have hb : nx % 16 + hmc n k (nx % 16) ≤ 16 := by unfold hmc; omega
        rw [cut_strm _ _ hb, hh]
        obtain ⟨d, hd⟩ : ∃ d, min n (nx + (16 - nx % 16) - at_) = k + d := ⟨min n (nx + (16 - nx % 16) - at_) - k, by omega⟩
        rw [hd, strm_add, Nat.add_sub_cancel_left, show at_ + k = nx by omega]
      rw [hx]
      exact ih _ _ (by omega) (by omega) rfl
    · rw [bl_ge hk h (by omega), show k = n by omega]
      rfl
theorem ct_bl (key nonce : Nat → Nat) (hk : Byt key) (h : Byt8 nonce) (at_ n : Nat) : ct n (bks key nonce hk h (at_ + n) at_) = strm key nonce at_ n := by
  have := ct_go key nonce hk h at_ n (at_ + n - at_) at_ 0 (by omega) (by omega) (by omega)
  rw [strm_zero] at this
  exact this
end Go.Proofs.YtagegigffohcbaaGreatDoor

namespace Go.Proofs.YtagegigffohcbaaGreatDoor
open Go.RowKit
set_option linter.unusedVariables false
set_option linter.unusedSimpArgs false

theorem size_nc : (Tryz.prog.info? 23).map (·.size) = some 8 := by kernel_rfl
/-- a whole array is copied into the beginning of an array of the call's own -/
theorem wpList_copy_tab {P : Program} {w : World} {ops : Array Oper} {rest : List Oper} {o : Oper} {a : Act} {Q : Exit → Act → World → Prop} (hgd : o.guard = none) (d s : Operand) (dT sT : TypeId)
    (ho : o.op = .call { callee := .builtin .copy, args := #[d, s], argTypes := #[dT, sT] }) (elem : TypeId) (hu : P.underlying dT = some (.slice elem)) (hsz : (P.info? elem).map (·.size) = some 1)
    (g n : Nat) (hd : a.eval d = .slice (some ⟨g, 0, none⟩) n n) (g' m : Nat) (hs : a.eval s = .slice (some ⟨g', 0, none⟩) m m)
    (t t' : TypeId) (f f' : Nat → Nat) (hg : Arr w g t .u8 n f) (hg' : Arr w g' t' .u8 m f') (hm : 0 < m) (hmn : m ≤ n)
    (h : ∀ w', Arr w' g t .u8 n (fun i => if i < m then f' i else f i) → w.grownBy w' (some g) → wpList P ops Q rest (a.put o.dst (.int .i64 m)) w') :
    wpList P ops Q (o :: rest) a w := by
  have hlen : (tabV .u8 m f').toList.length = m := by rw [Array.length_toList, tabV_size]
  have hts : (tabV .u8 n f).toList.length = n := by rw [Array.length_toList, tabV_size]
  refine wpList_copy_own hgd d s dT sT ho elem hu hsz g 0 n n ⟨g', 0, none⟩ m m hd hs (tabV .u8 n f) t hg (tabV .u8 m f').toList (by rw [hlen]; exact (Nat.min_eq_left hmn).symm) (fun j v hj => ?_) (by rw [hlen, tabV_size]; omega) (fun u hu => ?_) ?_
  · rw [(addr_add _ _).2 rfl, cells_of hg', Nat.zero_add, ← Array.getElem?_toList]
    exact hj
  · have := Array.all_eq_true.1 (tabV_one (k := .u8) (n := m) (f := f'))
    rw [Array.mem_toList_iff] at hu
    obtain ⟨i, hi, rfl⟩ := Array.mem_iff_getElem.1 hu
    exact this i hi
  · have e : ((tabV .u8 n f).toList.take 0 ++ ((tabV .u8 m f').toList ++ (tabV .u8 n f).toList.drop (0 + (tabV .u8 m f').toList.length))).toArray = tabV .u8 n (fun i => if i < m then f' i else f i) := by
      apply tabV_ext
      · simp only [List.size_toArray, List.length_append, List.length_take, List.length_drop, hts, hlen]
        omega
      · intro i hi
        rw [List.getElem?_toArray, hlen, List.take_zero, List.nil_append, Nat.zero_add]
        by_cases h2 : i < m
        · rw [List.getElem?_append_left (by rw [hlen]; omega), Array.getElem?_toList, tabV_get h2, if_pos h2]
        · rw [List.getElem?_append_right (by rw [hlen]; omega), hlen, List.getElem?_drop, show m + (i - m) = i by omega, Array.getElem?_toList, tabV_get hi, if_neg h2]
    rw [e, hlen]
    exact h _ (setRow_heap w g _ _ t _ hg) (grown_setRow g _)

/-- the block with k bytes of the number -/
def cinp (nonce : Nat → Nat) (i k : Nat) : Bk := fun j => if j < 8 then nonce j else if 15 - j < k then i / 256 ^ (15 - j) % 256 else 0
theorem cinp_zero (nonce : Nat → Nat) (i : Nat) : ∀ j, j < 16 → (if j < 8 then nonce j else 0) = cinp nonce i 0 j := fun j _ => by
  unfold cinp
  by_cases h : j < 8
  · rw [if_pos h, if_pos h]
  · rw [if_neg h, if_neg h, if_neg (by omega)]
theorem cinp_all (nonce : Nat → Nat) (i : Nat) {j : Nat} (hj : j < 16) : cinp nonce i 8 j = cin nonce i j := by
  unfold cinp cin
  by_cases h : j < 8
  · rw [if_pos h, if_pos h]
  · rw [if_neg h, if_neg h, if_pos (by omega)]
theorem cinp_other (nonce : Nat → Nat) (i : Nat) {k j : Nat} (hj : j < 16) (hne : j ≠ 15 - k) : cinp nonce i k j = cinp nonce i (k + 1) j := by
  unfold cinp
  by_cases h : j < 8
  · rw [if_pos h, if_pos h]
  · rw [if_neg h, if_neg h]
    by_cases h' : 15 - j < k
    · rw [if_pos h', if_pos (by omega)]
    · rw [if_neg h', if_neg (by omega)]
theorem cinp_byte (nonce : Nat → Nat) (i : Nat) {k : Nat} (hk : k < 8) : (i : Int) / 2 ^ (8 * k) % 256 = ((cinp nonce i (k + 1) (15 - k) : Nat) : Int) := by
  unfold cinp
  rw [if_neg (by omega), if_pos (by omega), show 15 - (15 - k) = k by omega, show (256 : Nat) ^ k = 2 ^ (8 * k) by rw [Nat.pow_mul], Int.natCast_emod, Int.natCast_ediv, Int.natCast_pow]
  rfl
set_option maxRecDepth 100000 in
set_option maxHeartbeats 2000000 in
theorem block_c (key nonce : Nat → Nat) (i : Nat) (hk : Byt key) (hn : Byt8 nonce) (hi : i < 18446744073709551616) (w : World) :
    Calls Tryz.prog 99 #[.agg (tabV .u8 16 key), .agg (tabV .u8 8 nonce), .int .u64 (i : Nat)] w fun e w' => e = .returned (.agg (tabV .u8 16 (cblk key nonce i))) ∧ Ext w w' := by
  have HK := Lib.hid hk
  have HN := Lib.hid hn
  obtain ⟨W, hW⟩ : ∃ W, W = (((w.alloc (.cells (tabV .u8 16 key) 22)).alloc (.cells (tabV .u8 8 nonce) 23)).alloc (.cells (tabV .u8 16 (fun _ => 0)) 22)).alloc (.cells (tabV .u8 16 (fun _ => 0)) 22) := ⟨_, rfl⟩
  have hx : Ext w W := by rw [hW]; exact (((Ext.alloc _ _).tr (Ext.alloc _ _)).tr (Ext.alloc _ _)).tr (Ext.alloc _ _)
  obtain ⟨h0, h1, h2⟩ := new3 w (.cells (tabV .u8 16 key) 22) (.cells (tabV .u8 8 nonce) 23) (.cells (tabV .u8 16 (fun _ => 0)) 22)
  have H0 := Lib.hid (show Arr W w.heap.size 22 .u8 16 key by rw [hW]; exact (Ext.alloc _ _).get h0)
  have H1 := Lib.hid (show Arr W (w.heap.size + 1) 23 .u8 8 nonce by rw [hW]; exact (Ext.alloc _ _).get h1)
  have H2 := Lib.hid (show Arr W (w.heap.size + 1 + 1) 22 .u8 16 (fun _ => 0) by rw [hW]; exact (Ext.alloc _ _).get h2)
  have h3 : Arr W (w.heap.size + 1 + 1 + 1) 22 .u8 16 (fun _ => 0) := by
    rw [hW]
    have := new_of (((w.alloc (.cells (tabV .u8 16 key) 22)).alloc (.cells (tabV .u8 8 nonce) 23)).alloc (.cells (tabV .u8 16 (fun _ => 0)) 22)) (.cells (tabV .u8 16 (fun _ => 0)) 22)
    rwa [show (((w.alloc (.cells (tabV .u8 16 key) 22)).alloc (.cells (tabV .u8 8 nonce) 23)).alloc (.cells (tabV .u8 16 (fun _ => 0)) 22)).heap.size = w.heap.size + 1 + 1 + 1 by simp] at this
  have H3 := Lib.hid h3
  have HX := Lib.hid hx
  have HW := Lib.hid hW
  clear hk hn hx h0 h1 h2 h3 hW
  go_enter Tryz.func99, Tryz.ntmps99
  go_wp2_with fail
  change Code.wp _ _ _ _ ((((w.alloc (.cells (tabV .u8 16 key) 22)).alloc (.cells (tabV .u8 8 nonce) 23)).alloc (.cells (tabV .u8 16 (fun _ => 0)) 22)).alloc (.cells (tabV .u8 16 (fun _ => 0)) 22))
  rw [← HW.out]
  obtain ⟨wd, hwd⟩ : ∃ wd, wd = W.drew := ⟨_, rfl⟩
  have xd : Ext W wd := by rw [hwd]; exact Ext.drew _
  have H0 := Lib.hid (H0.out.ext xd)
  have H1 := Lib.hid (H1.out.ext xd)
  have H2 := Lib.hid (H2.out.ext xd)
  have H3 := Lib.hid (H3.out.ext xd)
  have HX := Lib.hid (HX.out.tr xd)
  have HWD := Lib.hid hwd
  clear xd hwd
  refine wp_region_ord 2 (fun W => W = wd) (by kernel_rfl) (by kernel_rfl) (by decide) (by kernel_rfl) HWD.out.symm ?_
  simp only [List.take_succ_cons, List.take_zero, List.drop_succ_cons, List.drop_zero]
  repeat (refine wpTxt_stay ?_ (fun K hK => ?_) rfl ?_; rotate_left; (simp only [Act.put, List.setIfInBounds_toArray, List.set_cons_zero, List.set_cons_succ] at hK; go_simp; exact hK); simp only [Act.put, List.setIfInBounds_toArray, List.set_cons_zero, List.set_cons_succ])
  refine wpTxt_nil ?_
  rintro Wd rfl
  go_wp2_with (refine wpList_copy_tab rfl (.tmp 9) (.tmp 10) 31 31 rfl 5 Tryz.underlying31 size_u8 (w.heap.size + 1 + 1 + 1) 16 rfl (w.heap.size + 1) 8 rfl 22 23 (fun _ => 0) nonce H3.out H1.out (by decide) (by decide) ?_
               intro w2 hA2 hG2
               have HA2 := Lib.hid hA2
               have HG2 := Lib.hid hG2
               clear hA2 hG2)
  have HK2 := Lib.hid (show Arr w2 w.heap.size 22 .u8 16 key from grown_get HG2.out H0.out (by simp; omega))
  have HR2 := Lib.hid (show Arr w2 (w.heap.size + 1 + 1) 22 .u8 16 (fun _ => 0) from grown_get HG2.out H2.out (by simp))
  have HX2 := Lib.hid (grown_new HX.out HG2.out (fun g hg => by simp at hg; omega))
  clear HG2 H0 H1 H2 H3 HX HWD HW
  go_loopw [12] (fun v wr => ∃ k : Nat, k ≤ 8 ∧ v = .int .i64 k ∧ Arr wr (w.heap.size + 1 + 1 + 1) 22 .u8 16 (cinp nonce i k) ∧ Arr wr w.heap.size 22 .u8 16 key ∧ Arr wr (w.heap.size + 1 + 1) 22 .u8 16 (fun _ => 0) ∧ Ext w wr) (fun v _ => 8 - (intOf v).toNat)
  case atStart => exact ⟨0, by omega, rfl, HA2.out.congr (cinp_zero nonce i), HK2.out, HR2.out, HX2.out⟩
  case round =>
    obtain ⟨k, hk, rfl, hA, hKy, hR, hx⟩ := hrel
    by_cases hlt : k < 8
    · have i1 : (k : Int) < 8 := by omega
      have q1 : IntKind.i64.wrap (15 - (k : Int)) = ((15 - k : Nat) : Int) := by rw [IntWalk.i64_in _ (by omega)]; omega
      have q2 : IntKind.i64.wrap (8 * (k : Int)) = ((8 * k : Nat) : Int) := by rw [IntWalk.i64_in _ (by omega)]; omega
      have i2 : ((15 - k : Nat) : Int) < 16 := by omega
      have hc := hA.cell (i := 15 - k) (by omega)
      have hfr := hA.free (15 - k)
      have HA := Lib.hid hA
      have HKY := Lib.hid hKy
      have HR := Lib.hid hR
      have HX := Lib.hid hx
      clear hA hKy hR hx
      go_wp2_with fail
      refine ⟨⟨k + 1, by omega, by go_num, HA.out.to (by omega) (cinp_byte nonce i hlt) (fun j hj hne => cinp_other nonce i hj hne), HKY.out.other (by omega) _ _, HR.out.other (by omega) _ _, ext_setCell HX.out (by simp; omega) _⟩, ?_⟩
      simp only [intOf]
      omega
    · have e8 : k = 8 := by omega
      subst e8
      have HA := Lib.hid (hA.congr (f' := cin nonce i) (fun j hj => cinp_all nonce i hj))
      have HKY := Lib.hid hKy
      have HR := Lib.hid hR
      have HX := Lib.hid hx
      clear hA hKy hR hx
      go_wp2_with (first
        | refine wpList_load_arr rfl 22 (.tmp 3) rfl w.heap.size rfl 22 .u8 16 key _ HKY.out Tryz.underlying22 size_bk ?_
        | refine wpList_load_arr rfl 22 (.tmp 7) rfl (w.heap.size + 1 + 1 + 1) rfl 22 .u8 16 (cin nonce i) _ HA.out Tryz.underlying22 size_bk ?_)
      refine (encrypt_c key (cin nonce i) HK.out (cin_byt HN.out i) _).mono ?_
      rintro e w4 ⟨rfl, hx4⟩
      have HR4 := Lib.hid (HR.out.ext hx4)
      have HX4 := Lib.hid (HX.out.tr hx4)
      clear hx4
      go_wp2_with (refine wpList_store_arr' rfl rfl 22 (.tmp 6) (.tmp 26) rfl (w.heap.size + 1 + 1) .u8 16 (enc key (cin nonce i)) rfl rfl 22 _ HR4.out size_bk tabV_size ?_; intro w5 hA5 hG5)
      refine bodyPost_ret (v := .agg (tabV .u8 16 (enc key (cin nonce i)))) ?_ rfl ⟨rfl, grown_new HX4.out hG5 (fun g hg => by simp at hg; omega)⟩
      exact results_cell_row rfl _ _ _ _ _ _ _ rfl hA5 Tryz.underlying22 rfl (by rw [tabV_size]; exact size_bk)
end Go.Proofs.YtagegigffohcbaaGreatDoor

namespace Go.Proofs.YtagegigffohcbaaGreatDoor
open Go.RowKit

/-- the wide fence, in a round or not -/
structure Wd (F : Fence) : Prop where
  fn : ∀ f, F.fn f
  depth : F.depth = none
  sem : ∀ (ρ : Operand → Value) (o : Oper), (∀ c, o.op ≠ .defer c) → Oper.semAt F.round ρ o = execOp ρ o
  calls : ∀ {P : Program} {f : FuncId} {args : Array Value} {w : World} {R : Ending → World → Prop} (n : Nat), Calls P f args w R → CallsIn F n P f args w R
  rows : ∀ {P : Program} {row : String} {args : Array Value} {w : World} {R : Value → World → Prop} (n : Nat), Rows P row args w R → RowsIn F n P row args w R
theorem rows_wide {n : Nat} {P : Program} {row : String} {args : Array Value} {w : World} {R : Value → World → Prop} (h : Rows P row args w R) : RowsIn Fence.wide n P row args w R :=
  fun c cs _ => let ⟨v, w', r, s⟩ := h c cs; ⟨v, w', r, stepsIn_wide.2 s⟩
theorem wd_wide : Wd Fence.wide := ⟨fun _ => trivial, rfl, fun ρ o _ => Oper.semAt_none ρ o, fun _ h => callsIn_wide.2 h, fun _ h => rows_wide h⟩
theorem wd_round (l : Nat) : Wd (Fence.wide.inRound l) :=
  ⟨fun _ => trivial, rfl, fun ρ o h => Oper.semAt_some l ρ o h, fun _ h => CallsIn.inRound l (callsIn_wide.2 h), fun _ h => rows_wide h⟩

section
variable {F : Fence} {n : Nat} {P : Program} {ops : Array Oper}
/-- ends where it is, and nowhere else -/
def nQ (R : Act → World → Prop) : Exit → Act → World → Prop := fun e a w => e = .normal ∧ R a w
theorem nQ_out {R : Act → World → Prop} : ¬ LetsOut (nQ R) := fun ⟨_, _, h⟩ => nomatch h.1
theorem oper_in (hF : Wd F) {o : Oper} {a : Act} {w : World} {K : Act → World → Prop} {R : Act → World → Prop} {Q : Exit → Act → World → Prop} (hd : ∀ c, o.op ≠ .defer c) (h : o.wp P a w K (nQ R)) : o.wpIn F n P a w K Q := by
  refine ⟨fun f _ => hF.fn f, ?_⟩
  rw [hF.sem _ _ hd]
  unfold Oper.wp at h
  generalize (execOp a.eval o).run P w = r at *
  have hdep : ∀ {p : Prop}, F.depth.isSome = true → p := fun h => by rw [hF.depth] at h; cases h
  cases r with
  | ok x w' =>
    cases x <;> simp only [Oper.upon, Oper.uponIn] at h ⊢
    case value => exact h
    case skip => exact h
    case defer => exact h
    case enter f args =>
      refine ⟨fun h => hdep h, hF.calls _ (h.mono fun e w'' he => ?_)⟩
      cases e with
      | returned v => exact he
      | panicked c => exact nomatch he.1
      | outgrown => exact absurd he nQ_out
    case row row args => exact ⟨fun h => hdep h, hF.rows _ h⟩
  | halt x w' =>
    cases x <;> simp only [Oper.upon, Oper.uponIn] at h ⊢
    case panic => exact nomatch h.1
def noDefer (ops : List Oper) : Bool := ops.all fun o => match o.op with | .defer _ => false | _ => true
theorem noDefer_op {o : Oper} (h : (match o.op with | .defer _ => false | _ => true) = true) : ∀ c, o.op ≠ .defer c := fun c hc => by rw [hc] at h; cases h
theorem list_in (hF : Wd F) {R : Act → World → Prop} {Q : Exit → Act → World → Prop} (l2 : List Oper) : ∀ (l1 : List Oper) (a : Act) (w : World), noDefer l1 = true → (∀ a w, R a w → wpListIn F n P ops Q l2 a w) →
    wpList P ops (nQ R) l1 a w → wpListIn F n P ops Q (l1 ++ l2) a w
  | [], a, w, _, hR, h => hR a w h.2
  | o :: l1, a, w, hd, hR, h => by
    have hd' : (match o.op with | .defer _ => false | _ => true) = true ∧ noDefer l1 = true := by simpa [noDefer] using hd
    unfold wpList at h
    show wpListIn F n P ops Q (o :: (l1 ++ l2)) a w
    unfold wpListIn
    split
    · rename_i hw
      rw [if_pos hw] at h
      rcases h with h | h
      · exact Oper.wpIn_mono (fun a w h => list_in hF l2 l1 a w hd'.2 hR h) (oper_in hF (noDefer_op hd'.1) h)
      · exact absurd h.2 nQ_out
    · rename_i hw
      rw [if_neg hw] at h
      exact ⟨fun f _ => hF.fn f, list_in hF l2 l1 _ w hd'.2 hR h⟩
theorem any_in (hF : Wd F) {md : Region.Mode} {R : Act → World → Prop} {Q : Exit → Act → World → Prop} (hd : noDefer ops.toList = true) (hR : ∀ a w, R a w → Q .normal a w) : ∀ (fuel : Nat) (listed : Array Bool) (a : Act) (w : World),
    wpAny P md ops (nQ R) fuel listed a w → wpAnyIn F n P md ops Q fuel listed a w
  | 0, listed, a, w, h => ⟨h.1, hR _ _ h.2.2⟩
  | fuel + 1, listed, a, w, h => by
    refine ⟨fun h0 => hR _ _ (h.1 h0).2, fun i hi => ?_⟩
    have h1 := h.2 i hi
    unfold wpOp at h1
    unfold wpOpIn
    cases ho : ops[i]? with
    | none =>
      rw [ho] at h1
      exact any_in hF hd hR fuel _ a w h1
    | some o =>
      rw [ho] at h1
      simp only at h1 ⊢
      have hdo : (match o.op with | .defer _ => false | _ => true) = true := by
        have := List.all_eq_true.1 hd o (by rw [Array.mem_toList_iff]; exact Array.mem_of_getElem? ho)
        exact this
      split
      · rename_i hw
        rw [if_pos hw] at h1
        rcases h1 with h1 | h1
        · exact Oper.wpIn_mono (fun a w h => any_in hF hd hR fuel _ a w h) (oper_in hF (noDefer_op hdo) h1)
        · exact absurd h1.2 nQ_out
      · rename_i hw
        rw [if_neg hw] at h1
        exact ⟨fun f _ => hF.fn f, any_in hF hd hR fuel _ _ w h1⟩
/-- a region in the order of its text -/
theorem region_in (hF : Wd F) {id : Nat} {l : List Oper} {R : Act → World → Prop} {Q : Exit → Act → World → Prop} {a : Act} {w : World} (hd : noDefer l = true) (hR : ∀ a w, R a w → Q .normal a w)
    (h : wpList P l.toArray (nQ R) l a w) : (Code.region id l.toArray false).wpIn F n P Q a w := by
  refine wpIn_region_lit ?_
  have := list_in (n := n) (Q := Q) hF [] l a w hd (fun a w h => wpListIn_nil (hR a w h)) h
  rwa [List.append_nil] at this
/-- a region of which the last operations are walked in the fence -/
theorem region_in2 (hF : Wd F) {id : Nat} {l : List Oper} {Q : Exit → Act → World → Prop} {a : Act} {w : World} (k : Nat) (hd : noDefer (l.take k) = true)
    (h : wpList P l.toArray (nQ (wpListIn F n P l.toArray Q (l.drop k))) (l.take k) a w) : (Code.region id l.toArray false).wpIn F n P Q a w := by
  refine wpIn_region_lit ?_
  have := list_in (n := n) (Q := Q) hF (l.drop k) (l.take k) a w hd (fun _ _ h => h) h
  rwa [List.take_append_drop] at this
end
theorem any_ordL {P : Program} {l : List Oper} {Q : Exit → Act → World → Prop} {a0 : Act} {w : World} (n : Nat) (S : (Nat → Bool) → World → Prop) (hok : ordOk l.toArray n (l.length - n) = true) (hn : n ≤ l.length)
    (hin : ((List.range l.length).all fun j => ((dstOf l.toArray j).map fun d => decide (d < a0.tmps.size)).getD true) = true) (hS : S (fun _ => false) w.drew)
    (h : wpTxt P l.toArray S (fun a => ∀ L W, (∀ i, i < n → L i = true) → S L W → wpList P l.toArray Q (l.drop n) a W) 0 (l.take n) a0) : wpAny P .any l.toArray Q l.toArray.size (Array.replicate l.toArray.size false) a0 w.drew := by
  obtain ⟨vs, hl, hs, hq⟩ := wpTxt_vals _ _ _ h
  have htl : (l.take n).length = n := by simp; omega
  have hg := ord_go (P := P) (S := S) (n := n) (l := l.take n) (tl := l.drop n) (Q := Q) (a0 := a0) (vs := vs) (ops := l.toArray) (by rw [List.take_append_drop]) htl (by rw [List.length_drop]; exact hok) (by rw [hl, htl]) ?_ (fun i o hi => by have := hs i o hi; rwa [Nat.zero_add] at this) hq
    n (Array.replicate l.toArray.size false) a0 w.drew ?_ ?_
  · rw [List.length_drop, show n + (l.length - n) = l.toArray.size by simp; omega] at hg
    exact hg
  · intro j d hd
    have hjs := dstOf_lt hd
    have := List.all_eq_true.1 hin j (List.mem_range.2 (by simpa using hjs))
    rw [hd] at this
    simpa using this
  · rw [Array.toList_replicate, List.take_replicate, List.count_replicate]
    simp
    omega
  · have hrep : ∀ j, (Array.replicate l.toArray.size false).getD j false = false := fun j => getD_replicate_false _ _
    refine ⟨by simp only [hrep]; exact hS, by simp, rfl, rfl, ?_, ?_, fun d _ => rfl, ?_⟩
    · intro j oj e hj hl
      have hjs : j < l.length := by have := (Array.getElem?_eq_some_iff.1 hj).1; simpa using this
      simp [Array.getD_eq_getD_getElem?, hjs] at hl
    · intro t _ ht
      have ht' : t < l.length := by simpa using ht
      simp [Array.getD_eq_getD_getElem?, ht']
    · intro j d hl
      rw [hrep] at hl
      cases hl
theorem any_ord {P : Program} {l : List Oper} {Q : Exit → Act → World → Prop} {a0 : Act} {w : World} (n : Nat) (S : World → Prop) (hok : ordOk l.toArray n (l.length - n) = true) (hn : n ≤ l.length)
    (hin : ((List.range l.length).all fun j => ((dstOf l.toArray j).map fun d => decide (d < a0.tmps.size)).getD true) = true) (hS : S w.drew)
    (h : wpTxt P l.toArray (fun _ => S) (fun a => ∀ W, S W → wpList P l.toArray Q (l.drop n) a W) 0 (l.take n) a0) : wpAny P .any l.toArray Q l.toArray.size (Array.replicate l.toArray.size false) a0 w.drew := by
  refine any_ordL n (fun _ => S) hok hn hin hS ?_
  have mono : ∀ (l' : List Oper) (k : Nat) (a : Act) (Q1 Q2 : Act → Prop), (∀ a, Q1 a → Q2 a) → wpTxt P l.toArray (fun _ => S) Q1 k l' a → wpTxt P l.toArray (fun _ => S) Q2 k l' a := by
    intro l'
    induction l' with
    | nil => intro k a Q1 Q2 h12 h; exact h12 _ h
    | cons o l' ih => intro k a Q1 Q2 h12 h; exact ⟨h.choose, h.choose_spec.1, ih _ _ _ _ h12 h.choose_spec.2⟩
  exact mono _ _ _ _ _ (fun a ha _ W _ hS => ha W hS) h
/-- a region that draws its order, in the order of its text -/
theorem region_ord_in {F : Fence} {m : Nat} {P : Program} (hF : Wd F) {id : Nat} {l : List Oper} {R : Act → World → Prop} {Q : Exit → Act → World → Prop} {a : Act} {w : World} (n : Nat) (S : World → Prop) (hd : noDefer l = true) (hR : ∀ a w, R a w → Q .normal a w)
    (hm : P.follows .mixedOrders = true) (hok : ordOk l.toArray n (l.length - n) = true) (hn : n ≤ l.length) (hin : ((List.range l.length).all fun j => ((dstOf l.toArray j).map fun d => decide (d < a.tmps.size)).getD true) = true) (hS : S w.drew)
    (h : wpTxt P l.toArray (fun _ => S) (fun a => ∀ W, S W → wpList P l.toArray (nQ R) (l.drop n) a W) 0 (l.take n) a) : (Code.region id l.toArray true).wpIn F m P Q a w :=
  wpIn_region_any hm (any_in hF (by simpa using hd) hR _ _ a _ (any_ord n S hok hn hin hS h))
end Go.Proofs.YtagegigffohcbaaGreatDoor

namespace Go.Proofs.YtagegigffohcbaaGreatDoor
open Go.RowKit
set_option linter.unusedVariables false
set_option linter.unusedSimpArgs false

/-- a cell that holds an integer -/
def Num (w : World) (g : Nat) (t : TypeId) (n : Nat) : Prop := w.heap[g]? = some (.cells #[.int .i64 (n : Nat)] t (0, 0))
theorem Num.ext {w w' : World} {g : Nat} {t : TypeId} {n : Nat} (h : Num w g t n) (hx : Ext w w') : Num w' g t n := hx.get h
theorem Num.cell {w : World} {g : Nat} {t : TypeId} {n : Nat} (h : Num w g t n) : w.cell? ⟨g, 0, none⟩ = some (.int .i64 (n : Nat)) := by unfold Num at h; rw [cells_of h]; rfl

set_option maxRecDepth 100000 in
theorem blocks_c (key nonce : Nat → Nat) (at_ n : Nat) (w : World) :
    Calls Tryz.prog 88 #[.agg (tabV .u8 16 key), .agg (tabV .u8 8 nonce), .int .i64 (at_ : Nat), .int .i64 (n : Nat)] w fun e w' =>
      e = .returned (.func (.func 98) #[] #[.pointer (some ⟨w.heap.size + 2, 0, none⟩), .pointer (some ⟨w.heap.size + 3, 0, none⟩), .pointer (some ⟨w.heap.size, 0, none⟩), .pointer (some ⟨w.heap.size + 1, 0, none⟩)]) ∧
      Arr w' w.heap.size 22 .u8 16 key ∧ Arr w' (w.heap.size + 1) 23 .u8 8 nonce ∧ Num w' (w.heap.size + 2) 3 at_ ∧ Num w' (w.heap.size + 3) 3 n ∧ Ext w w' ∧ w'.heap.size = w.heap.size + 4 := by
  obtain ⟨W, hW⟩ : ∃ W, W = (((w.alloc (.cells (tabV .u8 16 key) 22)).alloc (.cells (tabV .u8 8 nonce) 23)).alloc (.cells #[.int .i64 (at_ : Nat)] 3)).alloc (.cells #[.int .i64 (n : Nat)] 3) := ⟨_, rfl⟩
  have hx : Ext w W := by rw [hW]; exact (((Ext.alloc _ _).tr (Ext.alloc _ _)).tr (Ext.alloc _ _)).tr (Ext.alloc _ _)
  obtain ⟨h0, h1, h2⟩ := new3 w (.cells (tabV .u8 16 key) 22) (.cells (tabV .u8 8 nonce) 23) (.cells #[.int .i64 (at_ : Nat)] 3)
  have H0 := Lib.hid (show Arr W w.heap.size 22 .u8 16 key by rw [hW]; exact (Ext.alloc _ _).get h0)
  have H1 := Lib.hid (show Arr W (w.heap.size + 1) 23 .u8 8 nonce by rw [hW]; exact (Ext.alloc _ _).get h1)
  have H2 := Lib.hid (show Num W (w.heap.size + 2) 3 at_ by rw [hW]; exact (Ext.alloc _ _).get h2)
  have h3 : Num W (w.heap.size + 3) 3 n := by
    rw [hW]
    have := new_of (((w.alloc (.cells (tabV .u8 16 key) 22)).alloc (.cells (tabV .u8 8 nonce) 23)).alloc (.cells #[.int .i64 (at_ : Nat)] 3)) (.cells #[.int .i64 (n : Nat)] 3)
    rwa [show (((w.alloc (.cells (tabV .u8 16 key) 22)).alloc (.cells (tabV .u8 8 nonce) 23)).alloc (.cells #[.int .i64 (at_ : Nat)] 3)).heap.size = w.heap.size + 3 by simp] at this
  have H3 := Lib.hid h3
  have HX := Lib.hid hx
  have HZ := Lib.hid (show W.heap.size = w.heap.size + 4 by rw [hW]; simp)
  have HW := Lib.hid hW
  clear hx h0 h1 h2 h3 hW
  go_enter Tryz.func88, Tryz.ntmps88
  go_wp2_with fail
  go_ret
  rw [← HW.out]
  exact ⟨rfl, H0.out, H1.out, H2.out, H3.out, HX.out, HZ.out⟩

/-- what a round must keep: the cells that the iterator reads -/
def Mid (kb nb : Nat) (W W' : World) : Prop := W'.heap[kb]? = W.heap[kb]? ∧ W'.heap[nb]? = W.heap[nb]?
def encs (x : CB) : Array Value := #[.int .i64 (x.1.1 : Nat), .agg (tabV .u8 16 x.1.2)]
theorem abide_ext {β : Type} {B : Nat} {J : β → World → Prop} (hJ : AbidesFrom B J) {s : β} {W W' : World} (h : J s W) (hx : Ext W W') : J s W' := hJ s W W' none h (hx.grown none) (fun r e => by cases e)

set_option maxRecDepth 100000 in
set_option maxHeartbeats 2000000 in
theorem blocks_stops (kb nb ab eb m : Nat) (key nonce : Nat → Nat) (hk : Byt key) (hn : Byt8 nonce) (at_ n : Nat) (hb : at_ + n ≤ 2199023255552) (w0 : World)
    (h1 : Arr w0 kb 22 .u8 16 key) (h2 : Arr w0 nb 23 .u8 8 nonce) (h3 : Num w0 ab 3 at_) (h4 : Num w0 eb 3 n) :
    SeqStopsK Fence.wide m Tryz.prog 98 #[.pointer (some ⟨ab, 0, none⟩), .pointer (some ⟨eb, 0, none⟩), .pointer (some ⟨kb, 0, none⟩), .pointer (some ⟨nb, 0, none⟩)] encs (Mid kb nb)
      (fun xs => xs = bks key nonce hk hn (at_ + n) at_) (fun _ => True) (bks key nonce hk hn (at_ + n) at_).length w0 := by
  intro l J Jx W hW hJ hJx hY h0
  have hx : Ext w0 W := hW
  have HA := Lib.hid (h1.ext hx)
  have HN := Lib.hid (h2.ext hx)
  have hca := (h3.ext hx).cell
  have hce := (h4.ext hx).cell
  have HJ := Lib.hid hJ
  have HY := Lib.hid hY
  have H0 := Lib.hid h0
  clear hW hJ hJx hY h0 h1 h2 h3 h4 hx
  refine callsIn_of_wp Tryz.func98 rfl trivial ?_ rfl
  simp only [Tryz.ntmps98, List.size_toArray, List.length_cons, List.length_nil, Nat.reduceAdd, Nat.reduceSub, Array.replicate_succ, Array.replicate_zero, List.push_toArray, List.append_toArray, List.nil_append, List.cons_append]
  refine wpIn_seq_k fun K hK => ?_
  obtain ⟨wd, hwd⟩ : ∃ wd, wd = W.drew := ⟨_, rfl⟩
  have xd : Ext W wd := by rw [hwd]; exact Ext.drew _
  have HA := Lib.hid (HA.out.ext xd)
  have HN := Lib.hid (HN.out.ext xd)
  have H0 := Lib.hid (abide_ext HJ.out H0.out xd)
  have hca' : wd.cell? ⟨ab, 0, none⟩ = some (.int .i64 (at_ : Nat)) := by rw [hwd]; exact hca
  have hce' : wd.cell? ⟨eb, 0, none⟩ = some (.int .i64 (n : Nat)) := by rw [hwd]; exact hce
  have HWD := Lib.hid hwd
  have q1 : IntKind.i64.wrap ((at_ : Int) + (n : Int)) = ((at_ + n : Nat) : Int) := by rw [IntWalk.i64_in _ (by omega)]; omega
  clear hca hce xd hwd
  refine region_ord_in (R := K) wd_wide 6 (fun V => V = wd) (by kernel_rfl) (fun _ _ h => h) (by kernel_rfl) (by kernel_rfl) (by decide) (by kernel_rfl) HWD.out.symm ?_
  simp only [List.take_succ_cons, List.take_zero, List.drop_succ_cons, List.drop_zero]
  repeat (refine wpTxt_stay ?_ (fun K hK => ?_) rfl ?_; rotate_left; (simp only [Act.put, List.setIfInBounds_toArray, List.set_cons_zero, List.set_cons_succ] at hK; go_simp; exact hK); simp only [Act.put, List.setIfInBounds_toArray, List.set_cons_zero, List.set_cons_succ])
  refine wpTxt_nil ?_
  rintro V rfl
  refine ⟨rfl, hK _ _ ?_⟩
  clear hK HWD hca' hce'
  gi_wp2_with fail
  gi_loopw [6] (fun v wr => ∃ (nx : Nat) (pre : List CB), v = .int .i64 nx ∧ nx ≤ at_ + n + 16 ∧ pre ++ bks key nonce hk hn (at_ + n) nx = bks key nonce hk hn (at_ + n) at_ ∧ J pre wr ∧ Arr wr kb 22 .u8 16 key ∧ Arr wr nb 23 .u8 8 nonce) (fun v _ => at_ + n + 16 - (intOf v).toNat)
  case atStart => exact ⟨at_, [], rfl, by omega, rfl, H0.out, HA.out, HN.out⟩
  case round =>
    obtain ⟨nx, pre, rfl, hnx, hpre, hj, hA, hN⟩ := hrel
    have HP := Lib.hid hpre
    have HJ0 := Lib.hid hj
    have HA1 := Lib.hid hA
    have HN1 := Lib.hid hN
    clear hpre hj hA hN
    by_cases hlt : nx < at_ + n
    · have i1 : (nx : Int) < (at_ : Int) + (n : Int) := by omega
      have hc : Calls Tryz.prog 99 #[.agg (tabV .u8 16 key), .agg (tabV .u8 8 nonce), .int .u64 ((nx : Int) / 16)] wr fun e w' => e = .returned (.agg (tabV .u8 16 (cblk key nonce (nx / 16)))) ∧ Ext wr w' := by
        have := block_c key nonce (nx / 16) hk hn (by omega) wr
        rwa [show ((nx / 16 : Nat) : Int) = (nx : Int) / 16 by omega] at this
      have HC := Lib.hid hc
      clear hc
      have q2 : IntKind.u64.wrap ((nx : Int) / 16) = ((nx / 16 : Nat) : Int) := by rw [IntKind.wrap_u64]; omega
      refine wpIn_seq_k fun K1 hK1 => ?_
      refine wpIn_seq_k fun K2 hK2 => ?_
      refine region_in (R := K2) wd_wide (by kernel_rfl) (fun _ _ h => h) ?_
      go_wp2_with fail
      refine ⟨rfl, hK2 _ _ ?_⟩
      refine wpIn_cond_true rfl ?_
      refine wpIn_skip ?_
      refine hK1 _ _ ?_
      clear hK1 hK2
      refine wpIn_seq_k fun K3 hK3 => ?_
      refine wpIn_block ?_
      refine wpIn_seq_k fun K4 hK4 => ?_
      refine region_in2 wd_wide 9 (by kernel_rfl) ?_
      simp only [List.take_succ_cons, List.take_zero, List.drop_succ_cons, List.drop_zero]
      go_wp2_with (first
        | refine wpList_load_arr rfl 22 (.tmp 3) rfl kb rfl 22 .u8 16 key _ HA1.out Tryz.underlying22 size_bk ?_
        | refine wpList_load_arr rfl 23 (.tmp 4) rfl nb rfl 23 .u8 8 nonce _ HN1.out Tryz.underlying23 size_nc ?_)
      refine HC.out.mono ?_
      rintro e w1 ⟨rfl, hx1⟩
      go_wp2_with fail
      refine ⟨rfl, ?_⟩
      have hbl := bl_lt hk hn hlt
      have hle : pre.length < (bks key nonce hk hn (at_ + n) at_).length := by rw [← HP.out, hbl]; simp
      obtain ⟨fn, tmps, assign, body, hy, hR⟩ := HY.out pre (cbm key nonce hk hn nx) w1 (abide_ext HJ.out HJ0.out hx1) hle
      have hy' : (Instr.yield l #[.int .i64 ((nx : Int) % 16), .agg (tabV .u8 16 (cblk key nonce (nx / 16)))]).run Tryz.prog w1 = .ok (.round l fn tmps assign body) w1 := hy
      have HR := Lib.hid hR
      have HBL := Lib.hid hbl
      have HX1 := Lib.hid hx1
      clear hy hR hbl hx1 hle HC
      gi_wp2_with fail
      refine ⟨fun h => (by simp [Fence.wide] at h), HR.out.mono ?_⟩
      rintro e w2 (⟨rfl, hj2, hm2⟩ | ⟨rfl, hj2⟩)
      · have HJ2 := Lib.hid hj2
        have HA2 := Lib.hid (show Arr w2 kb 22 .u8 16 key from hm2.1.trans (HX1.out.get HA1.out))
        have HN2 := Lib.hid (show Arr w2 nb 23 .u8 8 nonce from hm2.2.trans (HX1.out.get HN1.out))
        clear hj2 hm2 HR hy'
        have q3 : IntKind.i64.wrap (16 - (nx : Int) % 16) = 16 - (nx : Int) % 16 := IntWalk.i64_in _ (by omega)
        have q4 : IntKind.i64.wrap ((nx : Int) + (16 - (nx : Int) % 16)) = (nx : Int) + (16 - (nx : Int) % 16) := IntWalk.i64_in _ (by omega)
        gi_wp2_with fail
        refine ⟨⟨nx + (16 - nx % 16), pre ++ [cbm key nonce hk hn nx], by congr 1; omega, by omega, ?_, HJ2.out, HA2.out, HN2.out⟩, by simp only [intOf]; omega⟩
        rw [List.append_assoc, List.singleton_append, ← HBL.out]
        exact HP.out
      · have HJ2 := Lib.hid hj2
        clear hj2 HR hy'
        gi_wp2_with fail
        exact bodyPost_ret (results_none rfl _ _ _) rfl ⟨⟨_, rfl⟩, .inr ⟨_, trivial, HJ2.out⟩⟩
    · have i1 : ¬ (nx : Int) < (at_ : Int) + (n : Int) := by omega
      gi_wp2_with fail
      go_end0
      have h := HP.out
      rw [bl_ge hk hn (by omega), List.append_nil] at h
      rw [← h]
      exact ⟨⟨_, rfl⟩, .inl HJ0.out⟩
end Go.Proofs.YtagegigffohcbaaGreatDoor

namespace Go.Proofs.YtagegigffohcbaaGreatDoor
open Go.RowKit
set_option linter.unusedVariables false
set_option linter.unusedSimpArgs false

/-- a cell that holds a value -/
def Box (w : World) (g : Nat) (t : TypeId) (v : Value) : Prop := w.heap[g]? = some (.cells #[v] t (0, 0))
theorem Box.ext {w w' : World} {g : Nat} {t : TypeId} {v : Value} (h : Box w g t v) (hx : Ext w w') : Box w' g t v := hx.get h
theorem Box.cell {w : World} {g : Nat} {t : TypeId} {v : Value} (h : Box w g t v) : w.cell? ⟨g, 0, none⟩ = some v := by unfold Box at h; rw [cells_of h]; rfl
theorem Box.free {w : World} {g : Nat} {t : TypeId} {v : Value} (h : Box w g t v) : w.frozen? ⟨g, 0, none⟩ = false := free_of h 0
theorem Box.set_ {w : World} {g : Nat} {t : TypeId} {v : Value} (h : Box w g t v) (u : Value) : Box (w.setCell ⟨g, 0, none⟩ u) g t u := by
  unfold Box at *
  rw [set_of h]
  rfl
theorem keepC {X Y : World} {row : Option Nat} (hg : X.grownBy Y row) (hrow : ∀ r, row = some r → ∃ o : Obj, X.heap[r]? = some o ∧ o.isCells = false) {g : Nat} {cs : Array Value} {t : TypeId} {fr : Nat × Nat} (h : X.heap[g]? = some (.cells cs t fr)) : Y.heap[g]? = some (.cells cs t fr) :=
  (grownBy_keeps_cells hg hrow h rfl).trans h
theorem keeps_ext {W W' : World} (h : Ext W W') (B : Nat) : KeepsFrom B W W' := ⟨h.size, fun k o _ hk _ => h.get hk⟩
/-- a part of an array, as a slice -/
theorem run_slice_arr_mid {P : Program} {t e : TypeId} {n : Nat} (hu : P.underlying t = some (.array n e)) (hs : (P.info? e).map (·.size) = some 1) (g r q : Nat) (hr : r ≤ q) (hq : q ≤ n) (hrn : r < n) (i j : Int) (hi : i = r) (hj : j = q) (W : World) :
    (Instr.sliceAt t (.pointer (some ⟨g, 0, none⟩)) (some (.int .i64 i)) (some (.int .i64 j)) none).run P W = .ok (.slice (some ⟨g, r, none⟩) (q - r) (n - r)) W := by
  subst hi hj
  cases hq' : P.info? e with
  | none => simp [hq'] at hs
  | some ie =>
    have hsz : ie.size = 1 := by simpa [hq'] using hs
    have h1 : ¬ n = r := by omega
    have h2 : (q : Int) ≤ (n : Int) := by omega
    have h3 : (⟨g, 0, none⟩ : Addr).add r = ⟨g, r, none⟩ := by rw [(addr_add _ _).2 rfl, Nat.zero_add]
    have h4 : (r : Int) ≤ (q : Int) := by omega
    simp [Instr.sliceAt, Instr.sureAddr, Sem.run_bind, run_underlying hu, Instr.sliceBounds, run_sliceBound, sizeOf, typeInfo, hq', hsz, h1, h2, h3, h4]
/-- a part of an array reads as its bytes -/
theorem cut_rb {w : World} {g : Nat} {t : TypeId} {n : Nat} {f : Nat → Nat} (h : Arr w g t .u8 n f) (hf : ∀ i, i < n → f i < 256) (a c : Nat) (hc : a + c ≤ n) : RB w (fun _ _ => True) (some ⟨g, a, none⟩) (cut f a c) := by
  intro _
  refine ⟨g, a, _, t, (0, 0), rfl, h, trivial, fun j b hj => ?_⟩
  have hj' : j < c := by have := (List.getElem?_eq_some_iff.1 hj).1; rw [cut_len] at this; exact this
  rw [cut_get hj'] at hj
  injection hj with hj
  subst hj
  rw [tabV_get (by omega), u8, UInt8.toNat_ofNat', Nat.mod_eq_of_lt (hf _ (by omega))]
theorem wp_run {P : Program} {o : Oper} {a : Act} {w w1 : World} {K : Act → World → Prop} {Q : Exit → Act → World → Prop} {v : Value} (s x : Operand) (t : TypeId)
    (ho : o.op = .call { callee := .builtin .append, args := #[s, x], argTypes := #[t, t] }) (hrun : (Builtin.append_ #[t, t] o.type #[a.eval s, a.eval x]).run P w = .ok v w1) (h : K (a.put o.dst v) w1) : o.wp P a w K Q := by
  unfold Oper.wp execOp
  simp only [ho, resolve, invoke, builtin, Sem.run_bind, Sem.run_pure, Result.andThen_ok, List.map_toArray, List.map_cons, List.map_nil, hrun]
  exact h
/-- a region that draws its order, where one operation turns the world, in a round -/
theorem region_ordL_in {F : Fence} {m : Nat} {P : Program} (hF : Wd F) {id : Nat} {l : List Oper} {R : Act → World → Prop} {Q : Exit → Act → World → Prop} {a : Act} {w : World} (n : Nat) (S : (Nat → Bool) → World → Prop) (hd : noDefer l = true) (hR : ∀ a w, R a w → Q .normal a w)
    (hm : P.follows .mixedOrders = true) (hok : ordOk l.toArray n (l.length - n) = true) (hn : n ≤ l.length) (hin : ((List.range l.length).all fun j => ((dstOf l.toArray j).map fun d => decide (d < a.tmps.size)).getD true) = true) (hS : S (fun _ => false) w.drew)
    (h : wpTxt P l.toArray S (fun a => ∀ L W, (∀ i, i < n → L i = true) → S L W → wpList P l.toArray (nQ R) (l.drop n) a W) 0 (l.take n) a) : (Code.region id l.toArray true).wpIn F m P Q a w :=
  wpIn_region_any hm (any_in hF (by simpa using hd) hR _ _ a _ (any_ordL n S hok hn hin hS h))

theorem zip2 (x : CB) (t : Array Value) (p q : Tmp) : ((#[p, q] : Array Tmp).zip (encs x)).foldl (fun t (y : Tmp × Value) => t.setIfInBounds y.1 y.2) t = (t.setIfInBounds p (.int .i64 (x.1.1 : Nat))).setIfInBounds q (.agg (tabV .u8 16 x.1.2)) := by
  have e : ((#[p, q] : Array Tmp).zip (encs x)) = #[(p, .int .i64 (x.1.1 : Nat)), (q, .agg (tabV .u8 16 x.1.2))] := by
    apply Array.toList_inj.1
    rw [Array.toList_zip]
    rfl
  rw [e]
  rfl
/-- between two rounds -/
def SI (w : World) (B p n : Nat) (pre : List CB) (W : World) : Prop :=
  B ≤ W.heap.size ∧ Ext w W ∧ Num W (w.heap.size + 1 + 1) 3 n ∧ ∃ A c, Box W p 31 (.slice A (ct n pre).length c) ∧ OwnB W 5 w.heap.size A c (ct n pre) ∧ ∀ g, (Value.slice A (ct n pre).length c).ownBlock = some g → g = w.heap.size + 3 ∨ B ≤ g
theorem SI.own {w : World} {B p n : Nat} (hB : w.heap.size ≤ B) : OwnFrom B (SI w B p n) := by
  rintro pre X Y row ⟨hb, hx, hn, A, c, hbox, hown, hrow⟩ hg hr
  have hr' : ∀ r, row = some r → ∃ o : Obj, X.heap[r]? = some o ∧ o.isCells = false := fun r e => (hr r e).2
  refine ⟨Nat.le_trans hb hg.size, grown_new hx hg (fun g e => Nat.le_trans hB (hr g e).1), keepC hg hr' hn, A, c, keepC hg hr' hbox, hown.keep (fun g o hA _ ho => ?_), hrow⟩
  rcases hown.block with ⟨rfl, _, _⟩ | ⟨g', cs, rfl, _, hh, _⟩
  · cases hA
  · injection hA with hA
    injection hA with hA
    subst hA
    rw [hh] at ho
    injection ho with ho
    subst ho
    exact keepC hg hr' hh
theorem OwnB.keepO {X Y : World} {row : Option Nat} {E : TypeId} {base c : Nat} {A : Option Addr} {l : List UInt8} (h : OwnB X E base A c l) (hg : X.grownBy Y row) (hr : ∀ r, row = some r → ∃ o : Obj, X.heap[r]? = some o ∧ o.isCells = false) : OwnB Y E base A c l := by
  refine h.keep (fun g o hA _ ho => ?_)
  rcases h.block with ⟨rfl, _, _⟩ | ⟨g', cs, rfl, _, hh, _⟩
  · cases hA
  · injection hA with hA
    injection hA with hA
    subst hA
    rw [hh] at ho
    injection ho with ho
    subst ho
    exact keepC hg hr hh
theorem OwnB.apart {w : World} {E : TypeId} {base c g : Nat} {A : Option Addr} {l : List UInt8} {cs : Array Value} {t : TypeId} {fr : Nat × Nat} (h : OwnB w E base A c l) (hg : w.heap[g]? = some (.cells cs t fr)) (hne : t ≠ E) : (Value.slice A l.length c).ownBlock ≠ some g := by
  rcases h.block with ⟨rfl, _, _⟩ | ⟨g', cs', rfl, _, hh, _⟩
  · simp [Value.ownBlock]
  · intro e
    simp [Value.ownBlock] at e
    subst e
    rw [hh] at hg
    injection hg with hg
    injection hg with _ ht _
    exact hne ht.symm
theorem OwnB.others {w w' : World} {E : TypeId} {base c : Nat} {A : Option Addr} {l : List UInt8} (h : OwnB w E base A c l) (hg : w.grownBy w' (Value.slice A l.length c).ownBlock) : KeepsOthers w w' := by
  refine KeepsOthers.of_grownBy hg fun j o ej hj => ?_
  rcases h.block with ⟨rfl, _, _⟩ | ⟨g', cs', rfl, _, hh, _⟩
  · simp [Value.ownBlock] at ej
  · simp [Value.ownBlock] at ej
    subst ej
    rw [hh] at hj
    injection hj with hj
    subst hj
    rfl
/-- behind the assignment to the loop's variables -/
def SX (w : World) (p at_ n : Nat) (key nonce : Nat → Nat) (x : CB) (a : Act) (W : World) : Prop := ∃ Bx : Nat, Arr W Bx 22 .u8 16 x.1.2 ∧
  a = { tmps := #[.agg (tabV .u8 16 key), .agg (tabV .u8 8 nonce), .int .i64 (at_ : Nat), .int .i64 (n : Nat), .pointer (some ⟨w.heap.size, 0, none⟩), .pointer (some ⟨w.heap.size + 1, 0, none⟩), undef, .pointer (some ⟨w.heap.size + 1 + 1, 0, none⟩), .slice none 0 0, .pointer (some ⟨p, 0, none⟩),
    .int .i64 (x.1.1 : Nat), .pointer (some ⟨Bx, 0, none⟩), .int .i64 (n : Nat), .slice (some ⟨w.heap.size + 3, 0, none⟩) 0 n, .agg (tabV .u8 16 key), .agg (tabV .u8 8 nonce), .int .i64 (at_ : Nat), .int .i64 (n : Nat),
    .func (.func 98) #[] #[.pointer (some ⟨p + 1 + 2, 0, none⟩), .pointer (some ⟨p + 1 + 3, 0, none⟩), .pointer (some ⟨p + 1, 0, none⟩), .pointer (some ⟨p + 1 + 1, 0, none⟩)], .int .i64 (x.1.1 : Nat), .agg (tabV .u8 16 x.1.2), undef, undef, undef, undef, undef, undef, undef, undef, undef, undef, undef, undef], defers := [] }
theorem SX.own {w : World} {p at_ n B : Nat} {key nonce : Nat → Nat} (x : CB) (a : Act) : OwnFrom B (fun (_ : Unit) W => SX w p at_ n key nonce x a W) := by
  rintro _ X Y row ⟨Bx, hA, ha⟩ hg hr
  exact ⟨Bx, keepC hg (fun r e => (hr r e).2) hA, ha⟩

set_option maxRecDepth 100000 in
set_option maxHeartbeats 2000000 in
theorem stream_c (key nonce : Nat → Nat) (hk : Byt key) (hn : Byt8 nonce) (at_ n : Nat) (hb : at_ + n ≤ 2199023255552) (hm : n ≤ 1048576) (w : World) :
    Calls Tryz.prog 82 #[.agg (tabV .u8 16 key), .agg (tabV .u8 8 nonce), .int .i64 (at_ : Nat), .int .i64 (n : Nat)] w fun e w' =>
      ∃ A c, e = .returned (.slice A n c) ∧ OwnB w' 5 w.heap.size A c (strm key nonce at_ n) ∧ Ext w w' := by
  obtain ⟨i0, hi0, hz0, hz1, hz2⟩ := info_parts info_u8
  obtain ⟨W1, hW1⟩ : ∃ W, W = ((w.alloc (.cells (tabV .u8 16 key) 22)).alloc (.cells (tabV .u8 8 nonce) 23)).alloc (.cells #[.int .i64 (n : Nat)] 3) := ⟨_, rfl⟩
  have hx1 : Ext w W1 := by rw [hW1]; exact ((Ext.alloc _ _).tr (Ext.alloc _ _)).tr (Ext.alloc _ _)
  obtain ⟨h0, h1, h2⟩ := new3 w (.cells (tabV .u8 16 key) 22) (.cells (tabV .u8 8 nonce) 23) (.cells #[.int .i64 (n : Nat)] 3)
  have hs1 : W1.heap.size = w.heap.size + 3 := by rw [hW1]; simp
  rw [← hW1] at h0 h1 h2
  obtain ⟨w2, hrun, ho2, hg2⟩ := run_make_own (P := Tryz.prog) W1 w.heap.size 31 5 i0 (.int .u8 0) 1 Tryz.underlying31 hi0 hz0 hz1 .i64 .i64 n (by rw [hz2]; omega) (by unfold maxLen; omega) hx1.size
  have hx2 : Ext W1 w2 := grown_ext hg2
  rw [hs1] at hrun ho2
  rw [hW1] at hrun
  have hx3 := hx2.tr (Ext.alloc w2 (.cells #[.slice (some ⟨w.heap.size + 3, 0, none⟩) 0 n] 31))
  have HX2 := Lib.hid hx2
  have HO2 := Lib.hid (show OwnB w2 5 w.heap.size (some ⟨w.heap.size + 3, 0, none⟩) n [] from ho2)
  have hnc := (show Num W1 (w.heap.size + 1 + 1) 3 n from h2).ext hx3 |>.cell
  have HK2 := Lib.hid ((show Arr W1 w.heap.size 22 .u8 16 key from h0).ext hx3)
  have HN2 := Lib.hid ((show Arr W1 (w.heap.size + 1) 23 .u8 8 nonce from h1).ext hx3)
  have H0 := Lib.hid (show Arr W1 w.heap.size 22 .u8 16 key from h0)
  have H1 := Lib.hid (show Arr W1 (w.heap.size + 1) 23 .u8 8 nonce from h1)
  have H2 := Lib.hid (show Num W1 (w.heap.size + 1 + 1) 3 n from h2)
  have HX1 := Lib.hid hx1
  have HS1 := Lib.hid hs1
  have HW1 := Lib.hid hW1
  clear h0 h1 h2 hx1 hs1 hW1 ho2 hg2 hx2 hx3
  refine (callsIn_wide (n := 9)).1 (callsIn_of_wp_marks Tryz.func82 rfl trivial ?_ rfl)
  refine wpIn_wide.2 ?_
  simp only [Tryz.ntmps82, List.size_toArray, List.length_cons, List.length_nil, Nat.reduceAdd, Nat.reduceSub, Array.replicate_succ, Array.replicate_zero, List.push_toArray, List.append_toArray, List.nil_append, List.cons_append]
  go_wp2_with (first
     | refine wpList_load_arr rfl 22 (.tmp 4) rfl w.heap.size rfl 22 .u8 16 key _ HK2.out Tryz.underlying22 size_bk ?_
     | refine wpList_load_arr rfl 23 (.tmp 5) rfl (w.heap.size + 1) rfl 23 .u8 8 nonce _ HN2.out Tryz.underlying23 size_nc ?_)
  have HNW := Lib.hid (new_of w2 (.cells #[.slice (some ⟨w.heap.size + 3, 0, none⟩) 0 n] 31))
  have HXA := Lib.hid (HX1.out.tr (HX2.out.tr (Ext.alloc w2 (.cells #[.slice (some ⟨w.heap.size + 3, 0, none⟩) 0 n] 31))))
  have HOA := Lib.hid (HO2.out.ext (Ext.alloc w2 (.cells #[.slice (some ⟨w.heap.size + 3, 0, none⟩) 0 n] 31)))
  have HNA := Lib.hid ((H2.out.ext HX2.out).ext (Ext.alloc w2 (.cells #[.slice (some ⟨w.heap.size + 3, 0, none⟩) 0 n] 31)))
  have hzw : w.heap.size + 3 ≤ w2.heap.size := by have := HX2.out.size; have := HS1.out; omega
  refine (blocks_c key nonce at_ n _).mono ?_
  obtain ⟨p, hp⟩ : ∃ p, p = w2.heap.size := ⟨_, rfl⟩
  rw [show (w2.alloc (.cells #[.slice (some ⟨w.heap.size + 3, 0, none⟩) 0 n] 31)).heap.size = p + 1 by rw [hp]; simp]
  rw [← hp] at HNW hzw ⊢
  rintro e w4 ⟨rfl, ha4, hb4, hc4, hd4, hx4, hs4⟩
  have HA4 := Lib.hid ha4
  have HB4 := Lib.hid hb4
  have HC4 := Lib.hid (show Num w4 (p + 3) 3 at_ from hc4)
  have HD4 := Lib.hid (show Num w4 (p + 4) 3 n from hd4)
  have HS4 := Lib.hid (show Box w4 p 31 (.slice (some ⟨w.heap.size + 3, 0, none⟩) 0 n) from hx4.get HNW.out)
  have HO4 := Lib.hid (HOA.out.ext hx4)
  have HN4 := Lib.hid (HNA.out.ext hx4)
  have HX4 := Lib.hid (HXA.out.tr hx4)
  have HZ4 := Lib.hid (show w4.heap.size = p + 5 from hs4)
  clear ha4 hb4 hc4 hd4 hx4 hs4 hp hnc hrun
  clear HNW HXA HOA HNA HX1 HX2 HO2 H0 H1 H2 HS1 HW1 HK2 HN2
  go_wp2_with fail
  refine (wpIn_wide (n := 9)).1 ?_
  refine wpIn_rangeFunc_ownH (F := Fence.wide) rfl (by decide) (gf := 98) (lb := #[.pointer (some ⟨p + 1 + 2, 0, none⟩), .pointer (some ⟨p + 1 + 3, 0, none⟩), .pointer (some ⟨p + 1, 0, none⟩), .pointer (some ⟨p + 1 + 1, 0, none⟩)]) rfl trivial (enters_of Tryz.func98 (by kernel_rfl) rfl)
    (blocks_stops (p + 1) (p + 1 + 1) (p + 1 + 2) (p + 1 + 3) (9 - 1) key nonce hk hn at_ n hb w4 HA4.out HB4.out HC4.out HD4.out) (fun h k => ⟨k.1.trans h.1, k.2.trans h.2⟩) ?kb (Ext.refl w4) (fun _ => rfl)
    (SI w w4.heap.size p n) (fun _ _ _ => False) (SI.own HX4.out.size) (fun _ _ _ _ _ h _ _ => h) ?start (SX w p at_ n key nonce) (fun x a => SX.own x a) ?assign ?body ?done ?stop
  case kb =>
    intro W l o o' hl h _ _
    have hz := HZ4.out
    have hw := (Array.getElem?_eq_some_iff.1 h).1
    exact ⟨World.putObj_heap_other (by omega), World.putObj_heap_other (by omega)⟩
  case start => exact ⟨Nat.le_refl _, HX4.out, HN4.out, _, _, HS4.out, HO4.out, fun g hg => by simp [Value.ownBlock] at hg; omega⟩
  case assign =>
    rintro l pre x W K hI hK
    rw [zip2]
    simp only [List.setIfInBounds_toArray, List.set_cons_zero, List.set_cons_succ]
    refine wpIn_seq_k fun K1 hK1 => ?_
    refine region_in (R := K1) (wd_round l) (by kernel_rfl) (fun _ _ h => h) ?_
    go_wp2_with fail
    refine ⟨rfl, hK1 _ _ ?_⟩
    clear hK1
    refine region_in (R := K) (wd_round l) (by kernel_rfl) (fun _ _ h => h) ?_
    go_wp2_with (refine wpList_store_arr' rfl rfl 22 (.tmp 11) (.tmp 20) rfl W.heap.size .u8 16 x.1.2 rfl rfl 22 _ (new_of _ _) size_bk rfl ?_; intro w5 hA5 hG5)
    have hx5 : Ext W w5 := grown_new (Ext.alloc _ _) hG5 (fun g hg => by simp at hg; omega)
    have hz := HZ4.out
    obtain ⟨hb5, hx, hn5, A, c, hbox, hown, hrow⟩ := hI
    refine ⟨rfl, hK _ _ (keeps_ext hx5 _) ⟨hx5.block _ (by omega), hx5.block _ (by omega)⟩ ⟨Nat.le_trans hb5 hx5.size, hx.tr hx5, hn5.ext hx5, A, c, hbox.ext hx5, hown.ext hx5, hrow⟩ ⟨W.heap.size, hA5, rfl⟩⟩
  case body =>
    rintro l pre x a' W hl hrec ⟨hb5, hx, hn5, A, c, hbox, hown, hrow⟩ ⟨Bx, hA, rfl⟩ hlen
    refine wpIn_block ?_
    obtain ⟨⟨r, f⟩, hr16, hf⟩ := x
    have hkn := ct_le n pre
    obtain ⟨k, hk'⟩ : ∃ k, k = (ct n pre).length := ⟨_, rfl⟩
    obtain ⟨m, hm'⟩ : ∃ m, m = hmc n k r := ⟨_, rfl⟩
    have hm16 : r + m = min 16 (r + (n - k)) := by rw [hm']; unfold hmc; omega
    have hmn : m ≤ 16 := by omega
    obtain ⟨wd, hwd⟩ : ∃ wd, wd = W.drew := ⟨_, rfl⟩
    have xd : Ext W wd := by rw [hwd]; exact Ext.drew _
    have xo : KeepsOthers W wd := by rw [hwd]; exact KeepsOthers.drew _
    have hxd := hx.tr xd
    have hod := hown.ext xd
    have hbd := hbox.ext xd
    have hnd := hn5.ext xd
    have hAd := hA.ext xd
    obtain ⟨A', c', w1, hrun, ho1, hg1, hb1⟩ := run_append_bytes (P := Tryz.prog) wd w.heap.size 31 31 5 i0 Tryz.underlying31 hi0 hz0 hz1 hz2 A c (ct n pre) hod _ (some ⟨Bx, r, none⟩) (16 - r) (cut f r m) (cut_rb hAd hf r m (by omega)) (by rw [cut_len]; omega) hxd.size
    have hct : ct n (pre ++ [(⟨(r, f), hr16, hf⟩ : CB)]) = ct n pre ++ cut f r m := by rw [ct_snoc, hm', hk']
    have hl1 : (ct n pre ++ cut f r m).length = k + m := by rw [List.length_append, cut_len, hk']
    have hap := hod.apart hbd (by decide)
    have han := hod.apart hnd (by decide)
    have hb1' := grown_get hg1 hbd hap
    have hn1' := grown_get hg1 hnd han
    have xo1 := xo.trans (hod.others hg1)
    have hx1 := grown_new hxd hg1 hod.ge
    have hcs : ∀ V, (V = wd ∨ V = w1) → V.cell? ⟨p, 0, none⟩ = some (.slice A k c) := by
      rw [hk']
      rintro V (rfl | rfl)
      · exact hbd.cell
      · exact Box.cell hb1'
    have hcn : ∀ V, (V = wd ∨ V = w1) → V.cell? ⟨w.heap.size + 1 + 1, 0, none⟩ = some (.int .i64 (n : Nat)) := by
      rintro V (rfl | rfl)
      · exact hnd.cell
      · exact Num.cell hn1'
    have hfr := Box.free hb1'
    have hsl := fun V => run_slice_arr_mid (P := Tryz.prog) (t := 22) Tryz.underlying22 size_u8 Bx r (r + m) (by omega) (by omega) hr16 (r : Int) ((r : Int) + (m : Int)) rfl (by omega) V
    rw [show r + m - r = m by omega] at hsl
    rw [cut_len, hl1, ← hk'] at hrun
    have qa : IntKind.i64.wrap ((r : Int) + (n : Int)) = (r : Int) + (n : Int) := IntWalk.i64_in _ (by omega)
    have qb : IntKind.i64.wrap ((r : Int) + (n : Int) - (k : Int)) = (r : Int) + (n : Int) - (k : Int) := IntWalk.i64_in _ (by omega)
    have qc : (if (r : Int) + (n : Int) - (k : Int) < 16 then (r : Int) + (n : Int) - (k : Int) else 16) = (r : Int) + (m : Int) := by split <;> omega
    have HRUN := Lib.hid hrun
    have HCT := Lib.hid hct
    have HL1 := Lib.hid hl1
    have HB1 := Lib.hid hb1'
    have HN1 := Lib.hid hn1'
    have HXO := Lib.hid xo1
    have HX1 := Lib.hid hx1
    have HO1 := Lib.hid ho1
    have HG1 := Lib.hid hg1
    have HBB := Lib.hid hb1
    have HWD := Lib.hid hwd
    have HK := Lib.hid hk'
    have HROW := Lib.hid hrow
    have HB5 := Lib.hid hb5
    have HCS := Lib.hid hcs
    have HCN := Lib.hid hcn
    have HR16 := Lib.hid hr16
    have HM := Lib.hid hm16
    clear hrun hct hl1 hb1' hn1' xo1 hx1 ho1 hg1 hb1 hwd hk' hrow hb5 hcs hcn hbd hnd hod hap han hAd xo xd hxd hm' hbox hown hn5 hx hA hm16
    refine region_ordL_in (R := fun _ W' => KeepsFrom w4.heap.size W W' ∧ Mid (p + 1) (p + 1 + 1) W W' ∧ SI w w4.heap.size p n (pre ++ [(⟨(r, f), hr16, hf⟩ : CB)]) W') (wd_round l) 11 (Alt 10 wd w1) (by kernel_rfl) (fun _ _ h => h) (by kernel_rfl) (by kernel_rfl) (by decide) (by kernel_rfl) (by unfold Alt; rw [HWD.out]; rfl) ?_
    simp only [List.take_succ_cons, List.take_zero, List.drop_succ_cons, List.drop_zero]
    repeat (refine wpTxt_alt ?_ (by decide) (fun W K hS hK => ?_) rfl ?_; rotate_left; (have c1 := HCS.out W hS; have c2 := HCN.out W hS; simp only [Act.put, List.setIfInBounds_toArray, List.set_cons_zero, List.set_cons_succ] at hK; go_simp; exact hK); simp only [Act.put, List.setIfInBounds_toArray, List.set_cons_zero, List.set_cons_succ])
    refine wpTxt_turn (.slice A' (k + m) c') (fun K hK => wp_run (.tmp 21) (.tmp 30) 31 rfl HRUN.out hK) rfl ?_
    simp only [Act.put, List.setIfInBounds_toArray, List.set_cons_zero, List.set_cons_succ]
    refine wpTxt_nil ?_
    intro L V hL hS
    have hV : V = w1 := by
      unfold Alt at hS
      rw [hL 10 (by decide), if_pos rfl] at hS
      exact hS
    subst hV
    have c1 := HCS.out V (.inr rfl)
    go_wp2_with fail
    have hz := HZ4.out
    have hb5 := HB5.out
    have hxd : wd.heap.size = W.heap.size := by rw [HWD.out]; rfl
    have hwb : ∀ g : Nat, wd.heap[g]? = W.heap[g]? := fun g => by rw [HWD.out]; rfl
    have hrow := HROW.out
    have hmid : ∀ g : Nat, p < g → g < p + 5 → (V.setCell ⟨p, 0, none⟩ (.slice A' (k + m) c')).heap[g]? = W.heap[g]? := fun g h1 h2 => by
      rw [Below.heap_setCell V ⟨p, 0, none⟩ _ g (by simp; omega)]
      refine (HG1.out.block g (by omega) (fun e => ?_)).trans (hwb g)
      rcases hrow g e.symm with h | h <;> omega
    refine ⟨rfl, (HXO.out.trans (KeepsOthers.setCell _ _ _)).from _, ⟨hmid _ (by omega) (by omega), hmid _ (by omega) (by omega)⟩, ?_⟩
    unfold SI
    rw [HCT.out, HL1.out]
    refine ⟨?_, ext_setCell HX1.out (by simp; omega) _, ?_, A', c', Box.set_ HB1.out _, ?_, fun g hg => ?_⟩
    · have h1 := HG1.out.size
      simp only [World.size_setCell]
      omega
    · exact (Below.heap_setCell V ⟨p, 0, none⟩ _ _ (by simp; omega)).trans HN1.out
    · exact HO1.out.far (grown_set ⟨p, 0, none⟩ rfl _) HB1.out (by decide)
    · rcases HBB.out with h | h
      · rw [HL1.out] at h
        exact hrow g (by rw [← h]; exact hg)
      · rw [HL1.out, hxd] at h
        rw [h] at hg
        injection hg with hg
        exact .inr (by omega)
  case done =>
    rintro D xs W hD rfl ⟨hb5, hx, hn5, A, c, hbox, hown, hrow⟩ hK
    rw [ct_bl] at hbox hown hrow
    rw [strm_len] at hbox hrow
    have hcell := hbox.cell
    have HO := Lib.hid hown
    have HX := Lib.hid hx
    have HK := Lib.hid hK
    clear hbox hown hx hK
    go_wp2_with fail
    refine ⟨by simp, .inl ⟨_, _, rfl, run_takeDeferred HK.out, ?_⟩⟩
    have hg := grownBy_putObj' W D (.deferred none)
    refine ⟨_, results_tmp rfl _ _ _, A, c, rfl, HO.out.keepO hg (fun r e => by cases e; exact ⟨_, HK.out, rfl⟩), grown_new HX.out hg (fun g e => by cases e; exact Nat.le_trans HX4.out.size hD)⟩
  case stop =>
    rintro D c pre W _ _ h _
    exact h.elim
end Go.Proofs.YtagegigffohcbaaGreatDoor

namespace Go.Proofs.YtagegigffohcbaaGreatDoor
open Go.RowKit
set_option linter.unusedVariables false
set_option linter.unusedSimpArgs false


/-! ## a cipher in memory -/
def cph (key nonce : Nat → Nat) (used : Nat) : Array Value := (tabV .u8 16 key ++ tabV .u8 8 nonce).push (.int .i64 (used : Nat))
def Cph (w : World) (g : Nat) (key nonce : Nat → Nat) (used : Nat) : Prop := w.heap[g]? = some (.cells (cph key nonce used) 114 (0, 0))
section
variable {w w' : World} {g used : Nat} {key nonce : Nat → Nat}
theorem Cph.ext (h : Cph w g key nonce used) (hx : Ext w w') : Cph w' g key nonce used := hx.get h
theorem Cph.atKey (h : Cph w g key nonce used) : w.rangeAt g 0 (tabV .u8 16 key).toList := by
  intro j v hj
  rw [Array.getElem?_toList] at hj
  have hj16 : j < 16 := by have := (Array.getElem?_eq_some_iff.1 hj).1; rwa [tabV_size] at this
  unfold Cph at h
  rw [cells_of h, Nat.zero_add]
  unfold cph
  rw [Array.getElem?_push, Array.size_append, tabV_size, tabV_size, if_neg (by omega), Array.getElem?_append, tabV_size, if_pos hj16]
  exact hj
theorem Cph.atNonce (h : Cph w g key nonce used) : w.rangeAt g 16 (tabV .u8 8 nonce).toList := by
  intro j v hj
  rw [Array.getElem?_toList] at hj
  have hj16 : j < 8 := by have := (Array.getElem?_eq_some_iff.1 hj).1; rwa [tabV_size] at this
  unfold Cph at h
  rw [cells_of h]
  unfold cph
  rw [Array.getElem?_push, Array.size_append, tabV_size, tabV_size, if_neg (by omega), Array.getElem?_append, tabV_size, if_neg (by omega), show 16 + j - 16 = j by omega]
  exact hj
theorem cph_size : (cph key nonce used).size = 25 := by unfold cph; rw [Array.size_push, Array.size_append, tabV_size, tabV_size]
theorem Cph.atUsed (h : Cph w g key nonce used) : w.cell? ⟨g, 24, none⟩ = some (.int .i64 (used : Nat)) := by
  unfold Cph at h
  rw [cells_of h]
  unfold cph
  rw [Array.getElem?_push, Array.size_append, tabV_size, tabV_size, if_pos rfl]
theorem Cph.free (h : Cph w g key nonce used) (i : Nat) : w.frozen? ⟨g, i, none⟩ = false := free_of h i
theorem Cph.set_ (h : Cph w g key nonce used) (v : Nat) : Cph (w.setCell ⟨g, 24, none⟩ (.int .i64 (v : Nat))) g key nonce v := by
  unfold Cph at *
  rw [set_of h]
  have e : (cph key nonce used).setIfInBounds 24 (.int .i64 (v : Nat)) = cph key nonce v := by
    unfold cph
    apply Array.ext_getElem?
    intro i
    rw [Array.getElem?_setIfInBounds, Array.getElem?_push, Array.getElem?_push, Array.size_push, Array.size_append, tabV_size, tabV_size]
    by_cases e : 24 = i
    · subst e; simp
    · rw [if_neg e, if_neg (by omega), if_neg (by omega)]
  rw [e]
end
theorem wpList_build_two {P : Program} {ops : Array Oper} {rest : List Oper} {o : Oper} {a : Act} {w : World} {Q : Exit → Act → World → Prop} (hg : o.guard = none) (t : TypeId) (x y : Operand) (ho : o.op = .build t #[(0, x), (1, y)]) (u v : Value) (hx : a.eval x = u) (hy : a.eval y = v) (cs : Array Value)
    (hf : P.built t [(0, u), (1, v)] = some cs) (h : wpList P ops Q rest (a.put o.dst (.agg cs)) w) : wpList P ops Q (o :: rest) a w := by
  have e : P.built t ((#[(0, x), (1, y)] : Array (Nat × Operand)).map fun (i, z) => (i, a.eval z)).toList = some cs := by
    simp only [List.map_toArray, List.map_cons, List.map_nil, hx, hy]
    exact hf
  exact wpList_build hg t _ ho (by rw [e]; rfl) (by rw [e]; exact h)
theorem built_cph (key nonce : Nat → Nat) : Tryz.prog.built 114 [(0, .agg (tabV .u8 16 key)), (1, .agg (tabV .u8 8 nonce))] = some (cph key nonce 0) := by kernel_rfl

set_option maxRecDepth 100000 in
set_option maxHeartbeats 1000000 in
theorem new_c (key nonce : Nat → Nat) (w : World) :
    Calls Tryz.prog 67 #[.agg (tabV .u8 16 key), .agg (tabV .u8 8 nonce)] w fun e w' => e = .returned (.pointer (some ⟨w.heap.size + 2, 0, none⟩)) ∧ Cph w' (w.heap.size + 2) key nonce 0 ∧ Ext w w' := by
  obtain ⟨h0, h1⟩ := two_new w (.cells (tabV .u8 16 key) 22) (.cells (tabV .u8 8 nonce) 23)
  have HX := Lib.hid ((Ext.alloc w (.cells (tabV .u8 16 key) 22)).tr (Ext.alloc _ (.cells (tabV .u8 8 nonce) 23)))
  have H0 := Lib.hid (show Arr _ w.heap.size 22 .u8 16 key from h0)
  have H1 := Lib.hid (show Arr _ (w.heap.size + 1) 23 .u8 8 nonce from h1)
  clear h0 h1
  go_enter Tryz.func67, Tryz.ntmps67
  go_wp2_with (first
    | refine wpList_load_arr rfl 22 (.tmp 2) rfl w.heap.size rfl 22 .u8 16 key _ H0.out Tryz.underlying22 size_bk ?_
    | refine wpList_load_arr rfl 23 (.tmp 3) rfl (w.heap.size + 1) rfl 23 .u8 8 nonce _ H1.out Tryz.underlying23 size_nc ?_
    | refine wpList_build_two rfl 114 (.tmp 5) (.tmp 6) rfl (.agg (tabV .u8 16 key)) (.agg (tabV .u8 8 nonce)) rfl rfl (cph key nonce 0) (built_cph key nonce) ?_)
  go_ret
  exact ⟨rfl, (new3 w _ _ _).2.2, HX.out.tr (Ext.alloc _ _)⟩

set_option maxRecDepth 100000 in
theorem next_nil (B : Option Addr) (k d : Nat) (w : World) :
    Calls Tryz.prog 68 #[.pointer none, .slice B k d] w fun e w' => e = .returned (.slice none 0 0) ∧ w' = w := by
  go_enter Tryz.func68, Tryz.ntmps68
  go_wp2_with fail
  go_ret
  exact ⟨rfl, rfl⟩
end Go.Proofs.YtagegigffohcbaaGreatDoor

namespace Go.Proofs.YtagegigffohcbaaGreatDoor
open Go.RowKit
set_option linter.unusedVariables false
set_option linter.unusedSimpArgs false

/-- the exclusive or of two strings -/
def xl (s b : List UInt8) : List UInt8 := List.zipWith (fun x y => x ^^^ y) s b
theorem xl_len {s b : List UInt8} (h : s.length = b.length) : (xl s b).length = b.length := by unfold xl; rw [List.length_zipWith]; omega
/-- the first i bytes are done -/
def xlp (s b : List UInt8) (i : Nat) : List UInt8 := xl (s.take i) (b.take i) ++ s.drop i
theorem xlp_len {s b : List UInt8} (h : s.length = b.length) (i : Nat) : (xlp s b i).length = b.length := by
  unfold xlp xl
  rw [List.length_append, List.length_zipWith, List.length_take, List.length_take, List.length_drop]
  omega
theorem xlp_zero (s b : List UInt8) : xlp s b 0 = s := by unfold xlp xl; simp
theorem xlp_all {s b : List UInt8} (h : s.length = b.length) : xlp s b b.length = xl s b := by
  unfold xlp
  rw [List.take_of_length_le (by omega), List.take_of_length_le (by omega), List.drop_eq_nil_of_le (by omega), List.append_nil]
theorem xlp_at {s b : List UInt8} (h : s.length = b.length) {i : Nat} (hi : i < b.length) : (xlp s b i)[i]? = s[i]? := by
  unfold xlp xl
  have hl : (List.zipWith (fun x y => x ^^^ y) (s.take i) (b.take i)).length = i := by rw [List.length_zipWith, List.length_take, List.length_take]; omega
  rw [List.getElem?_append_right (by omega), hl, List.getElem?_drop, Nat.sub_self, Nat.add_zero]
theorem xlp_set {s b : List UInt8} (h : s.length = b.length) {i : Nat} (hi : i < b.length) (hs : i < s.length) : (xlp s b i).set i (s[i] ^^^ b[i]) = xlp s b (i + 1) := by
  apply List.ext_getElem?
  intro j
  have hl : (List.zipWith (fun x y => x ^^^ y) (s.take i) (b.take i)).length = i := by rw [List.length_zipWith, List.length_take, List.length_take]; omega
  have hl' : (List.zipWith (fun x y => x ^^^ y) (s.take (i + 1)) (b.take (i + 1))).length = i + 1 := by rw [List.length_zipWith, List.length_take, List.length_take]; omega
  rw [List.getElem?_set, xlp_len h]
  by_cases e : i = j
  · subst e
    rw [if_pos rfl, if_pos hi]
    unfold xlp xl
    rw [List.getElem?_append_left (by omega), List.getElem?_zipWith, List.getElem?_take, List.getElem?_take, if_pos (by omega), if_pos (by omega), List.getElem?_eq_getElem hs, List.getElem?_eq_getElem hi]
  · rw [if_neg e]
    unfold xlp xl
    by_cases hj : j < i
    · rw [List.getElem?_append_left (by omega), List.getElem?_append_left (by omega), List.getElem?_zipWith, List.getElem?_zipWith]
      simp only [List.getElem?_take, if_pos hj, if_pos (show j < i + 1 by omega)]
    · rw [List.getElem?_append_right (by omega), List.getElem?_append_right (by omega), hl, hl', List.getElem?_drop, List.getElem?_drop, show i + (j - i) = j by omega, show i + 1 + (j - (i + 1)) = j by omega]

set_option maxRecDepth 100000 in
set_option maxHeartbeats 2000000 in
theorem cnext_c (g used d : Nat) (key nonce : Nat → Nat) (hk : Byt key) (hn : Byt8 nonce) (B : Option Addr) (b : List UInt8) (S : Nat → TypeId → Prop) (w : World) (hu : used + b.length ≤ 2199023255552) (hb : b.length ≤ 1048576)
    (hc : Cph w g key nonce used) (hr : RB w S B b) (hS : ∀ t, ¬ S g t) :
    Calls Tryz.prog 68 #[.pointer (some ⟨g, 0, none⟩), .slice B b.length d] w fun e w' =>
      ∃ A c, e = .returned (.slice A b.length c) ∧ OwnB w' 5 w.heap.size A c (xl (strm key nonce used b.length) b) ∧ w.grownBy w' (some g) ∧ Cph w' g key nonce (used + b.length) := by
  have HC := Lib.hid hc
  have HR := Lib.hid hr
  obtain ⟨wd, hwd⟩ : ∃ wd, wd = w.drew := ⟨_, rfl⟩
  have xd : Ext w wd := by rw [hwd]; exact Ext.drew _
  have HCD := Lib.hid (hc.ext xd)
  have HWD := Lib.hid hwd
  have HXD := Lib.hid xd
  clear hc hr hwd xd
  go_enter Tryz.func68, Tryz.ntmps68
  go_wp2_with fail
  refine wp_region_ord 14 (fun W => W = wd) (by kernel_rfl) (by kernel_rfl) (by decide) (by kernel_rfl) HWD.out.symm ?_
  simp only [List.take_succ_cons, List.take_zero, List.drop_succ_cons, List.drop_zero]
  repeat (refine wpTxt_stay ?_ (fun K hK => ?_) rfl ?_; rotate_left; (simp only [Act.put, List.setIfInBounds_toArray, List.set_cons_zero, List.set_cons_succ] at hK; go_simp; exact hK); simp only [Act.put, List.setIfInBounds_toArray, List.set_cons_zero, List.set_cons_succ])
  refine wpTxt_stay (.agg (tabV .u8 16 key)) (fun K hK => wp_load_part 22 (.tmp 12) rfl g 0 rfl .u8 16 key 5 HCD.out.atKey Tryz.underlying22 size_bk hK) rfl ?_
  simp only [Act.put, List.setIfInBounds_toArray, List.set_cons_zero, List.set_cons_succ]
  repeat (refine wpTxt_stay ?_ (fun K hK => ?_) rfl ?_; rotate_left; (simp only [Act.put, List.setIfInBounds_toArray, List.set_cons_zero, List.set_cons_succ] at hK; go_simp; exact hK); simp only [Act.put, List.setIfInBounds_toArray, List.set_cons_zero, List.set_cons_succ])
  refine wpTxt_stay (.agg (tabV .u8 8 nonce)) (fun K hK => wp_load_part 23 (.tmp 16) rfl g 16 rfl .u8 8 nonce 5 HCD.out.atNonce Tryz.underlying23 size_nc hK) rfl ?_
  simp only [Act.put, List.setIfInBounds_toArray, List.set_cons_zero, List.set_cons_succ]
  have hcu := HCD.out.atUsed
  repeat (refine wpTxt_stay ?_ (fun K hK => ?_) rfl ?_; rotate_left; (simp only [Act.put, List.setIfInBounds_toArray, List.set_cons_zero, List.set_cons_succ] at hK; go_simp; exact hK); simp only [Act.put, List.setIfInBounds_toArray, List.set_cons_zero, List.set_cons_succ])
  refine wpTxt_nil ?_
  rintro W hW
  have hxw : Ext w W := by rw [hW, HWD.out]; exact Ext.drew _
  have hzw : W.heap.size = w.heap.size := by rw [hW, HWD.out]; rfl
  have HCW := Lib.hid (HC.out.ext hxw)
  have HXW := Lib.hid hxw
  have HZW := Lib.hid hzw
  clear hxw hzw hcu HCD HXD HWD hW
  go_wp2_with fail
  obtain ⟨s, hs⟩ : ∃ s, s = strm key nonce used b.length := ⟨_, rfl⟩
  have hsl : s.length = b.length := by rw [hs, strm_len]
  refine (stream_c key nonce hk hn used b.length hu hb _).mono ?_
  rw [HZW.out, ← hs]
  rintro e w2 ⟨A, c, rfl, ho, hx⟩
  have hgw : g < w.heap.size := lt_of_some HC.out
  have hcu := (HCW.out.ext hx).atUsed
  have hfr := (HCW.out.ext hx).free 24
  have qu : IntKind.i64.wrap ((used : Int) + (b.length : Int)) = (used : Int) + (b.length : Int) := IntWalk.i64_in _ (by omega)
  have ho' : OwnB w2 5 w.heap.size A c s := ho
  have HO := Lib.hid ho'
  have HX := Lib.hid (HXW.out.tr hx)
  have HC2 := Lib.hid (HCW.out.ext hx)
  have HSL := Lib.hid hsl
  have HS := Lib.hid hs
  clear ho ho' hx hsl hs
  go_wp2_with fail
  have hg3 : w2.grownBy (w2.setCell ⟨g, 24, none⟩ (.int .i64 ((used : Int) + (b.length : Int)))) (some g) := grown_set ⟨g, 24, none⟩ rfl _
  have hc3 : Cph (w2.setCell ⟨g, 24, none⟩ (.int .i64 ((used : Int) + (b.length : Int)))) g key nonce (used + b.length) := by
    have := HC2.out.set_ (used + b.length)
    rwa [show (((used + b.length : Nat)) : Int) = (used : Int) + (b.length : Int) by omega] at this
  have hr3 : RB (w2.setCell ⟨g, 24, none⟩ (.int .i64 ((used : Int) + (b.length : Int)))) (fun g' t => S g' t ∧ g' < w.heap.size) B b :=
    ((HR.out.inside).ext HX.out).grown hg3 (fun g' t hs => by rintro e; injection e with e; subst e; exact hS t hs.1)
  have ho3 : OwnB (w2.setCell ⟨g, 24, none⟩ (.int .i64 ((used : Int) + (b.length : Int)))) 5 w.heap.size A c s :=
    HO.out.keep (fun g' o _ hb' hh => grown_get hg3 hh (by rintro e; injection e with e; omega))
  have hw3 : w.grownBy (w2.setCell ⟨g, 24, none⟩ (.int .i64 ((used : Int) + (b.length : Int)))) (some g) := grown_tr (HX.out.grown (some g)) hg3
  have HC3 := Lib.hid hc3
  have HR3 := Lib.hid hr3
  have HO3 := Lib.hid ho3
  have HW3 := Lib.hid hw3
  clear hg3 hc3 hr3 ho3 hw3 hcu hfr HC2 HX HO HCW HXW HZW HC HR
  go_loopw [36] (fun v wr => ∃ i : Nat, i ≤ b.length ∧ v = .int .i64 i ∧ OwnB wr 5 w.heap.size A c (xlp s b i) ∧ RB wr (fun g' t => S g' t ∧ g' < w.heap.size) B b ∧ Cph wr g key nonce (used + b.length) ∧ w.grownBy wr (some g)) (fun v _ => b.length - (intOf v).toNat)
  case atStart => exact ⟨0, Nat.zero_le _, rfl, by rw [xlp_zero]; exact HO3.out, HR3.out, HC3.out, HW3.out⟩
  case round =>
    obtain ⟨i, hi, rfl, hO, hR, hC, hG⟩ := hrel
    clear HC3 HR3 HO3 HW3
    by_cases hlt : i < b.length
    · have hls := xlp_len HSL.out i
      obtain ⟨gb, off, rfl, hcb⟩ := hR.cell hlt
      obtain ⟨ga, rfl⟩ : ∃ ga, A = some ⟨ga, 0, none⟩ := by
        rcases hO.block with ⟨_, _, h⟩ | ⟨ga, cs, h, _⟩
        · rw [h] at hls; simp at hls; omega
        · exact ⟨ga, h⟩
      have hgab := hO.at_
      have hca := hO.cellAt (j := i) (by omega)
      have hfa := hO.freeAt i
      have hset := hO.set_ i (s[i]'(by have := HSL.out; omega) ^^^ b[i])
      rw [xlp_set HSL.out hlt (by have := HSL.out; omega)] at hset
      have hxi : (xlp s b i)[i]'(by omega) = s[i]'(by have := HSL.out; omega) := by
        have h1 := xlp_at HSL.out hlt
        rw [List.getElem?_eq_getElem (by omega), List.getElem?_eq_getElem (by have := HSL.out; omega)] at h1
        exact Option.some.inj h1
      rw [hxi] at hca
      obtain ⟨x, hx⟩ : ∃ x, x = s[i]'(by have := HSL.out; omega) := ⟨_, rfl⟩
      obtain ⟨y, hy⟩ : ∃ y, y = b[i] := ⟨_, rfl⟩
      rw [← hx] at hca hset
      rw [← hy] at hcb hset
      have q1 : bits .xor .u8 (x.toNat : Int) (y.toNat : Int) = ((x ^^^ y).toNat : Int) := by rw [u8_xor_nat _ _ (UInt8.toNat_lt x) (UInt8.toNat_lt y), UInt8.toNat_xor]
      have i1 : (i : Int) < (b.length : Int) := by omega
      have HSET := Lib.hid hset
      have HR := Lib.hid hR
      have HC := Lib.hid hC
      have HG := Lib.hid hG
      clear hset hR hC hG hO hls hxi hx hy
      go_wp2_with fail
      refine ⟨⟨i + 1, by omega, by go_num, HSET.out, HR.out.grown (grown_set ⟨ga, i, none⟩ rfl _) (fun g' t hs => by rintro e; injection e with e; have e1 : ga = g' := e; have := hs.2; omega), ?_, ?_⟩, by simp only [intOf]; omega⟩
      · exact (Below.heap_setCell _ ⟨ga, i, none⟩ _ _ (by simp; omega)).trans HC.out
      · have hG := HG.out
        refine ⟨hG.os, hG.tape, hG.output, by simp only [World.size_setCell]; exact hG.size, fun k hk hne => (Below.heap_setCell _ ⟨ga, i, none⟩ _ k (by show k ≠ ga; omega)).trans (hG.block k hk hne)⟩
    · have e : i = b.length := by omega
      subst e
      rw [xlp_all HSL.out] at hO
      have HO := Lib.hid hO
      have HC := Lib.hid hC
      have HG := Lib.hid hG
      clear hO hR hC hG
      go_wp2_with fail
      go_ret
      exact ⟨A, c, rfl, by rw [← HS.out]; exact HO.out, HG.out, HC.out⟩

set_option maxRecDepth 100000 in
set_option maxHeartbeats 1000000 in
theorem crypt_c (d : Nat) (key nonce : Nat → Nat) (hk : Byt key) (hn : Byt8 nonce) (B : Option Addr) (b : List UInt8) (S : Nat → TypeId → Prop) (w : World) (hb : b.length ≤ 1048576) (hr : RB w S B b) :
    Calls Tryz.prog 44 #[.agg (tabV .u8 16 key), .agg (tabV .u8 8 nonce), .slice B b.length d] w fun e w' =>
      ∃ A c, e = .returned (.slice A b.length c) ∧ OwnB w' 5 w.heap.size A c (xl (strm key nonce 0 b.length) b) ∧ Ext w w' := by
  obtain ⟨h0, h1⟩ := two_new w (.cells (tabV .u8 16 key) 22) (.cells (tabV .u8 8 nonce) 23)
  have HX := Lib.hid ((Ext.alloc w (.cells (tabV .u8 16 key) 22)).tr (Ext.alloc _ (.cells (tabV .u8 8 nonce) 23)))
  have H0 := Lib.hid (show Arr _ w.heap.size 22 .u8 16 key from h0)
  have H1 := Lib.hid (show Arr _ (w.heap.size + 1) 23 .u8 8 nonce from h1)
  have HR := Lib.hid (hr.inside)
  clear h0 h1 hr
  go_enter Tryz.func44, Tryz.ntmps44
  go_wp2_with (first
    | refine wpList_load_arr rfl 22 (.tmp 3) rfl w.heap.size rfl 22 .u8 16 key _ H0.out Tryz.underlying22 size_bk ?_
    | refine wpList_load_arr rfl 23 (.tmp 4) rfl (w.heap.size + 1) rfl 23 .u8 8 nonce _ H1.out Tryz.underlying23 size_nc ?_)
  refine (new_c key nonce _).mono ?_
  rintro e w2 ⟨rfl, hc2, hx2⟩
  obtain ⟨g, hg⟩ : ∃ g, g = ((w.alloc (.cells (tabV .u8 16 key) 22)).alloc (.cells (tabV .u8 8 nonce) 23)).heap.size + 2 := ⟨_, rfl⟩
  rw [← hg] at hc2 ⊢
  have hgw : w.heap.size ≤ g := by rw [hg]; simp; omega
  have HC2 := Lib.hid hc2
  have HX2 := Lib.hid (HX.out.tr hx2)
  clear hc2 hx2 hg
  go_wp2_with fail
  refine (cnext_c g 0 d key nonce hk hn B b _ w2 (by omega) hb HC2.out (HR.out.ext HX2.out) (fun t h => by have := h.2; omega)).mono ?_
  rintro e w3 ⟨A, c, rfl, ho, hg3, _⟩
  have HO := Lib.hid (ho.less (base' := w.heap.size) HX2.out.size)
  have HX3 := Lib.hid (grown_new HX2.out hg3 (fun k e => by cases e; exact hgw))
  clear ho hg3
  go_wp2_with fail
  go_ret
  exact ⟨A, c, rfl, HO.out, HX3.out⟩
end Go.Proofs.YtagegigffohcbaaGreatDoor
