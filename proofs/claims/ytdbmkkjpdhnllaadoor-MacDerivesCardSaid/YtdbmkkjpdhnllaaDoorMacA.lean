/-
  Package mac: the padded key, the code of parts under a padded key, Sum.
-/
import Derived.Test.YtdbmkkjpdhnllaaDoorMacM
import Derived.Test.YtdbmkkjpdhnllaaDoorMacR
namespace Go.Proofs.YtdbmkkjpdhnllaaDoor
open Go.RowKit

theorem size_key : (Tryd.prog.info? 41).map (·.size) = some 64 := by kernel_rfl
theorem info_row : (Tryd.prog.info? 22).map (fun i => (i.zero, i.size, i.bytes)) = some (some (.slice none 0 0), 1, 24) := by kernel_rfl
theorem rbc_one {w : World} {T : Nat → TypeId → Prop} {g : Nat} {A : Option Addr} {l : List UInt8} {c : Nat} {cs : Array Value} {t : TypeId} {fr : Nat × Nat} (hh : w.heap[g]? = some (.cells cs t fr)) (h0 : cs[0]? = some (.slice A l.length c)) (hr : RB w T A l) (hc : l.length ≤ c) (hm : c ≤ 9223372036854775807) :
    RBC w (fun _ _ => True) T (some ⟨g, 0, none⟩) [l] := by
  intro _
  refine ⟨g, 0, cs, t, fr, rfl, hh, trivial, fun j m hj => ?_⟩
  rcases j with _ | j
  · simp at hj
    subst hj
    exact ⟨A, c, h0, hr, hc, hm⟩
  · simp at hj
theorem fla_one (l : List UInt8) : fla [l] = l := by simp [fla]
theorem fla_cons (l : List UInt8) (ls : List (List UInt8)) : fla ([l] ++ ls) = l ++ fla ls := by simp [fla]

theorem byt_over {l : List UInt8} {i : Nat} (h : l.length ≤ i) : byt l i = 0 := by
  unfold byt
  rw [List.getD_eq_getElem?_getD, List.getElem?_eq_none h]
  rfl
/-- bytes are copied into an array of the call's own, none too -/
theorem wpList_copy_any {P : Program} {w : World} {ops : Array Oper} {rest : List Oper} {o : Oper} {a : Act} {Q : Exit → Act → World → Prop} (hgd : o.guard = none) (d s : Operand) (dT sT : TypeId)
    (ho : o.op = .call { callee := .builtin .copy, args := #[d, s], argTypes := #[dT, sT] }) (elem : TypeId) (hu : P.underlying dT = some (.slice elem)) (hsz : (P.info? elem).map (·.size) = some 1)
    (g dLen dCap : Nat) (hd : a.eval d = .slice (some ⟨g, 0, none⟩) dLen dCap) (A : Option Addr) (c : Nat) (l : List UInt8) (hs : a.eval s = .slice A l.length c)
    (t : TypeId) (n : Nat) (hg : Arr w g t .u8 n (fun _ => 0)) (S : Nat → TypeId → Prop) (hr : RB w S A l) (hfit : l.length ≤ dLen) (hn : dLen = n)
    (h : ∀ w', Arr w' g t .u8 n (byt l) → w.grownBy w' (some g) → wpList P ops Q rest (a.put o.dst (.int .i64 l.length)) w') :
    wpList P ops Q (o :: rest) a w := by
  by_cases hl : 0 < l.length
  · have hmin : min l.length dLen = l.length := by omega
    refine wpList_copy_arr hgd d s dT sT ho elem hu hsz g 0 dLen dCap hd A c l hs t n (fun _ => 0) hg S hr hl l.length hmin.symm (by omega) ?_
    intro w' hA hG
    refine h w' (hA.congr fun i _ => ?_) hG
    by_cases hi : i < l.length
    · rw [if_pos ⟨by omega, by omega⟩, Nat.sub_zero]
    · rw [if_neg (by omega), byt_over (by omega)]
  · have h0 : l = [] := List.eq_nil_of_length_eq_zero (by omega)
    subst h0
    exact wpList_copy_nothing hgd d s dT sT ho elem hu hsz _ A dLen dCap _ c hd hs (by simp) (h w (hg.congr fun i _ => (byt_over (by simp)).symm) (World.grownBy.refl _ _))

set_option maxRecDepth 100000 in
set_option maxHeartbeats 2000000 in
theorem padded_c (A : Option Addr) (c : Nat) (key : List UInt8) (S : Nat → TypeId → Prop) (w : World) (ht : Tab w) (h : RB w S A key) (hl : key.length ≤ 140737488355200) (hc : key.length ≤ c) (hm : c ≤ 9223372036854775807) :
    Calls Tryd.prog 20 #[.slice A key.length c] w fun e w' => e = .returned (.agg (tabV .u8 64 (byt (kb key)))) ∧ Ext w w' := by
  have HT := Lib.hid ht
  have HK := Lib.hid h
  have HL := Lib.hid hl
  have HC := Lib.hid hc
  clear ht h hl hc
  obtain ⟨o0, ho0⟩ : ∃ o0, o0 = Obj.cells (tabV .u8 64 (fun _ => 0)) 41 := ⟨_, rfl⟩
  have ha0 : Arr (w.alloc (.cells (tabV .u8 64 (fun _ => 0)) 41)) w.heap.size 41 .u8 64 (fun _ => 0) := new_of w _
  have HA0 := Lib.hid ha0
  clear ha0 ho0
  by_cases hlt : 64 < key.length
  · have t1 : decide ((64 : Int) < (key.length : Int)) = true := decide_eq_true (by omega)
    have HLT := Lib.hid hlt
    clear hlt
    go_enter Tryd.func20, Tryd.ntmps20
    go_wp2_with fail
    have hx1 := (Ext.alloc w (.cells (tabV .u8 64 (fun _ => 0)) 41)).tr (Ext.alloc _ (.cells #[.slice A key.length c] 22))
    have hr1 := rbc_one (two_new w (.cells (tabV .u8 64 (fun _ => 0)) 41) (.cells #[.slice A key.length c] 22)).2 rfl (HK.out.ext hx1) HC.out hm
    have hsum := sum_c (some ⟨w.heap.size + 1, 0, none⟩) 1 [key] _ _ _ (HT.out.ext hx1) hr1 (by rw [fla_one]; have := HL.out; omega) (by simp)
    rw [fla_one] at hsum
    have HX1 := Lib.hid hx1
    have HA1 := Lib.hid (HA0.out.ext (Ext.alloc _ (.cells #[.slice A key.length c] 22)))
    clear hx1 hr1
    refine hsum.mono ?_
    rintro e w2 ⟨rfl, hx2⟩
    have HX2 := Lib.hid (HX1.out.tr hx2)
    have HA2 := Lib.hid (HA1.out.ext hx2)
    clear hx2 hsum
    go_wp2_with (first
      | (refine wpList_store_arr rfl 26 (.tmp 3) (.tmp 9) rfl w2.heap.size .u8 32 (sum kc key) rfl rfl 26 _ (new_of _ _) size_dig rfl ?_
         intro w3 hA3 hG3
         have hx3 : Ext w2 w3 := grown_new (Ext.alloc _ _) hG3 (fun g hg => by simp at hg; omega)
         have HX3 := Lib.hid (HX2.out.tr hx3)
         have HA3 := Lib.hid (HA2.out.ext hx3)
         have HD3 := Lib.hid (hA3.rb (fun i _ => sum_lt key i))
         clear hA3 hG3 hx3)
      | (refine wpList_copy_any rfl (.tmp 11) (.tmp 12) 22 22 rfl 5 Tryd.underlying22 size_u8 w.heap.size 64 64 rfl (some ⟨w2.heap.size, 0, none⟩) 32 (dg key) rfl 41 64 HA3.out _ HD3.out (by rw [dg_len]; decide) rfl ?_
         intro w4 hA4 hG4
         have HX4 := Lib.hid (grown_new HX3.out hG4 (fun g hg => by simp at hg; omega))
         have HA4 := Lib.hid hA4
         clear hA4 hG4)
      | (refine wpList_load_arr rfl 41 (.tmp 2) rfl w.heap.size rfl 41 .u8 64 (byt (dg key)) _ HA4.out Tryd.underlying41 size_key ?_)
      | (refine wpList_store_arr' rfl rfl 41 (.tmp 2) (.tmp 14) rfl w.heap.size .u8 64 (byt (dg key)) rfl rfl 41 _ HA4.out size_key tabV_size ?_; intro w5 hA5 hG5))
    refine bodyPost_ret (v := .agg (tabV .u8 64 (byt (dg key)))) ?_ rfl ⟨by rw [kb, if_pos HLT.out], grown_new HX4.out hG5 (fun g hg => by simp at hg; omega)⟩
    exact results_cell_row rfl _ _ _ _ _ _ _ rfl hA5 Tryd.underlying41 rfl (by rw [tabV_size]; exact size_key)
  · have t1 : decide ((64 : Int) < (key.length : Int)) = false := decide_eq_false (by omega)
    have HLT := Lib.hid hlt
    clear hlt
    go_enter Tryd.func20, Tryd.ntmps20
    go_wp2_with (first
      | (refine wpList_copy_any rfl (.tmp 11) (.tmp 12) 22 22 rfl 5 Tryd.underlying22 size_u8 w.heap.size 64 64 rfl A c key rfl 41 64 HA0.out S (HK.out.ext (Ext.alloc _ _)) (by have := HLT.out; omega) rfl ?_
         intro w4 hA4 hG4
         have HX4 := Lib.hid (grown_new (Ext.alloc _ _) hG4 (fun g hg => by simp at hg; omega))
         have HA4 := Lib.hid hA4
         clear hA4 hG4)
      | (refine wpList_load_arr rfl 41 (.tmp 2) rfl w.heap.size rfl 41 .u8 64 (byt key) _ HA4.out Tryd.underlying41 size_key ?_)
      | (refine wpList_store_arr' rfl rfl 41 (.tmp 2) (.tmp 14) rfl w.heap.size .u8 64 (byt key) rfl rfl 41 _ HA4.out size_key tabV_size ?_; intro w5 hA5 hG5))
    refine bodyPost_ret (v := .agg (tabV .u8 64 (byt key))) ?_ rfl ⟨by rw [kb, if_neg HLT.out], grown_new HX4.out hG5 (fun g hg => by simp at hg; omega)⟩
    exact results_cell_row rfl _ _ _ _ _ _ _ rfl hA5 Tryd.underlying41 rfl (by rw [tabV_size]; exact size_key)
end Go.Proofs.YtdbmkkjpdhnllaaDoor
