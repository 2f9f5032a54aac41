/-
  Package mac: Check; Derive of a number below 0.
-/
import Derived.Test.YtdbmkkjpdhnllaaDoorMacS
import Derived.Test.YtdbmkkjpdhnllaaDoorMacE
namespace Go.Proofs.YtdbmkkjpdhnllaaDoor
open Go.RowKit

theorem derive_neg (ka : Option Addr) (ck kl : Nat) (s : ByteArray) (i : Int) (hi : i < 0) (w : World) :
    Calls Tryd.prog 12 #[.slice ka kl ck, .string s, .int .i64 i] w fun e w' => e = .returned (.slice none 0 0) ∧ w = w' := by
  have t1 : decide (i < 0) = true := decide_eq_true hi
  go_enter Tryd.func12, Tryd.ntmps12
  go_wp2_with fail
  go_ret
  exact ⟨rfl, rfl⟩

/-- whether a code is right -/
def right (key code b : List UInt8) : Bool := decide (16 ≤ code.length ∧ code.length ≤ 32 ∧ code = (cdl (byt (kb key)) b).take code.length)
set_option maxRecDepth 100000 in
set_option maxHeartbeats 2000000 in
theorem check_c (K : Option Addr) (ck : Nat) (key : List UInt8) (SK : Nat → TypeId → Prop) (D : Option Addr) (cd' : Nat) (code : List UInt8) (SD : Nat → TypeId → Prop) (A : Option Addr) (c : Nat) (ls : List (List UInt8)) (S T : Nat → TypeId → Prop) (w : World) (ht : Tab w)
    (hk : RB w SK K key) (hkl : key.length ≤ 140737488355200) (hkc : key.length ≤ ck) (hkm : ck ≤ 9223372036854775807) (hd : RB w SD D code) (hdl : code.length ≤ 9223372036854775807) (h : RBC w S T A ls) (hl : (fla ls).length ≤ 140737488355200) (hn : ls.length ≤ 100000) :
    Calls Tryd.prog 16 #[.slice K key.length ck, .slice D code.length cd', .slice A ls.length c] w fun e w' => e = .returned (.bool (right key code (fla ls))) ∧ Ext w w' := by
  have HS := Lib.hid (macSum_c K ck key SK A c ls S T w ht hk hkl hkc hkm h hl hn)
  have HD := Lib.hid hd
  obtain ⟨C, hC⟩ : ∃ C, C = hm key (fla ls) := ⟨_, rfl⟩
  have hCl : ∀ i, i < 32 → C i < 256 := fun i _ => by rw [hC]; exact hm_lt _ _ _
  have hR : right key code (fla ls) = decide (16 ≤ code.length ∧ code.length ≤ 32 ∧ code = (btl 32 C).take code.length) := by rw [hC]; rfl
  rw [← hC] at HS
  have HR := Lib.hid hR
  have HC := Lib.hid hCl
  clear ht hk hkl hkc hkm hd h hl hn hC hCl hR
  by_cases h16 : 16 ≤ code.length
  · have t1 : decide ((16 : Int) ≤ (code.length : Int)) = true := decide_eq_true (by omega)
    have t1' : (16 : Int) ≤ (code.length : Int) := by omega
    by_cases h32 : code.length ≤ 32
    · have t2 : decide ((code.length : Int) ≤ (32 : Int)) = true := decide_eq_true (by omega)
      have t2' : (code.length : Int) ≤ (32 : Int) := by omega
      go_enter Tryd.func16, Tryd.ntmps16
      go_wp2_with fail
      refine HS.out.mono ?_
      rintro e w1 ⟨rfl, hx1⟩
      have HX1 := Lib.hid hx1
      have HD1 := Lib.hid (HD.out.ext hx1)
      have hsl := fun W => run_slice_arr_hi (P := Tryd.prog) (t := 26) Tryd.underlying26 size_u8 w1.heap.size code.length h32 (by decide) (code.length : Int) rfl W
      clear hx1 HS HD
      go_wp2_with (refine wpList_store_arr rfl 26 (.tmp 7) (.tmp 10) rfl w1.heap.size .u8 32 C rfl rfl 26 _ (new_of _ _) size_dig rfl ?_
                   intro w2 hA2 hG2
                   have hx2 : Ext w1 w2 := grown_new (Ext.alloc _ _) hG2 (fun g hg => by simp at hg; omega)
                   have HX2 := Lib.hid (HX1.out.tr hx2)
                   have HD2 := Lib.hid (HD1.out.ext hx2)
                   have HA2 := Lib.hid (hA2.rb HC.out)
                   clear hx2 hA2 hG2)
      have htl : ((btl 32 C).take code.length).length = code.length := by rw [List.length_take, btl_len]; omega
      have heq := equal_c D (some ⟨w1.heap.size, 0, none⟩) code ((btl 32 C).take code.length) cd' 32 SD _ w2 HD2.out (HA2.out.take code.length) hdl
      rw [htl] at heq
      refine heq.mono ?_
      rintro e w3 ⟨rfl, rfl⟩
      clear heq htl hsl
      go_wp2_with fail
      go_ret
      refine ⟨?_, HX2.out⟩
      rw [HR.out]
      simp [h16, h32]
    · have t2 : decide ((code.length : Int) ≤ (32 : Int)) = false := decide_eq_false (by omega)
      go_enter Tryd.func16, Tryd.ntmps16
      go_wp2_with fail
      refine HS.out.mono ?_
      rintro e w1 ⟨rfl, hx1⟩
      have HX1 := Lib.hid hx1
      clear hx1 HS HD
      go_wp2_with (refine wpList_store_arr rfl 26 (.tmp 7) (.tmp 10) rfl w1.heap.size .u8 32 C rfl rfl 26 _ (new_of _ _) size_dig rfl ?_
                   intro w2 hA2 hG2
                   have hx2 : Ext w1 w2 := grown_new (Ext.alloc _ _) hG2 (fun g hg => by simp at hg; omega)
                   have HX2 := Lib.hid (HX1.out.tr hx2)
                   clear hx2 hA2 hG2)
      go_ret
      refine ⟨?_, HX2.out⟩
      rw [HR.out]
      simp [h32]
  · have t1 : decide ((16 : Int) ≤ (code.length : Int)) = false := decide_eq_false (by omega)
    go_enter Tryd.func16, Tryd.ntmps16
    go_wp2_with fail
    refine HS.out.mono ?_
    rintro e w1 ⟨rfl, hx1⟩
    have HX1 := Lib.hid hx1
    clear hx1 HS HD
    go_wp2_with (refine wpList_store_arr rfl 26 (.tmp 7) (.tmp 10) rfl w1.heap.size .u8 32 C rfl rfl 26 _ (new_of _ _) size_dig rfl ?_
                 intro w2 hA2 hG2
                 have hx2 : Ext w1 w2 := grown_new (Ext.alloc _ _) hG2 (fun g hg => by simp at hg; omega)
                 have HX2 := Lib.hid (HX1.out.tr hx2)
                 clear hx2 hA2 hG2)
    go_ret
    refine ⟨?_, HX2.out⟩
    rw [HR.out]
    simp [h16]
end Go.Proofs.YtdbmkkjpdhnllaaDoor
