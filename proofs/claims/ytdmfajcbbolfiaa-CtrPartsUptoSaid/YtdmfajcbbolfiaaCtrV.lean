/-
  The fixed examples of layer 8.
-/
import Derived.Test.YtdmfajcbbolfiaaCtrG
import Derived.Test.YtdmfajcbbolfiaaCtrK
import Derived.Test.YtdmfajcbbolfiaaBytC
namespace Go.Proofs.Ytdmfajcbbolfiaa
open Go.RowKit
set_option linter.unusedVariables false
set_option linter.unusedSimpArgs false

theorem z8_byt : Byt8 (fun _ => 0) := fun _ _ => by show 0 < 256; decide
theorem z16_tab : tabV .u8 16 (fun _ => 0) = #[.int .u8 0, .int .u8 0, .int .u8 0, .int .u8 0, .int .u8 0, .int .u8 0, .int .u8 0, .int .u8 0, .int .u8 0, .int .u8 0, .int .u8 0, .int .u8 0, .int .u8 0, .int .u8 0, .int .u8 0, .int .u8 0] := rfl
theorem z8_tab : tabV .u8 8 (fun _ => 0) = #[.int .u8 0, .int .u8 0, .int .u8 0, .int .u8 0, .int .u8 0, .int .u8 0, .int .u8 0, .int .u8 0] := rfl
theorem ex_stream (w : World) : Calls Try.prog 10 #[.agg #[.int .u8 0, .int .u8 0, .int .u8 0, .int .u8 0, .int .u8 0, .int .u8 0, .int .u8 0, .int .u8 0, .int .u8 0, .int .u8 0, .int .u8 0, .int .u8 0, .int .u8 0, .int .u8 0, .int .u8 0, .int .u8 0], .agg #[.int .u8 0, .int .u8 0, .int .u8 0, .int .u8 0, .int .u8 0, .int .u8 0, .int .u8 0, .int .u8 0], .int .i64 0, .int .i64 3] w fun e w' =>
    ∃ A c, e = .returned (.slice A 3 c) ∧ OwnB w' 5 w.heap.size A c [0x66, 0xe9, 0x4b] ∧ Ext w w' := by
  have h := cstream_c (fun _ => 0) (fun _ => 0) zky_byt z8_byt 0 3 (by decide) (by decide) w
  rw [strm_ex, z16_tab, z8_tab] at h
  exact h
theorem ex_none (w : World) : Calls Try.prog 10 #[.agg #[.int .u8 0, .int .u8 0, .int .u8 0, .int .u8 0, .int .u8 0, .int .u8 0, .int .u8 0, .int .u8 0, .int .u8 0, .int .u8 0, .int .u8 0, .int .u8 0, .int .u8 0, .int .u8 0, .int .u8 0, .int .u8 0], .agg #[.int .u8 0, .int .u8 0, .int .u8 0, .int .u8 0, .int .u8 0, .int .u8 0, .int .u8 0, .int .u8 0], .int .i64 (-1), .int .i64 3] w fun e w' => e = .returned (.slice none 0 0) ∧ Ext w w' := by
  have h := cstream_none (fun _ => 0) (fun _ => 0) (-1) 3 (.inl (by decide)) w
  rw [z16_tab, z8_tab] at h
  exact h
theorem ex_crypt (g : Nat) (w : World) (b : List UInt8) (hb : b.length = 2) (S : Nat → TypeId → Prop) (hr : RB w S (some ⟨g, 0, none⟩) b) : Calls Try.prog 12 #[.agg #[.int .u8 0, .int .u8 0, .int .u8 0, .int .u8 0, .int .u8 0, .int .u8 0, .int .u8 0, .int .u8 0, .int .u8 0, .int .u8 0, .int .u8 0, .int .u8 0, .int .u8 0, .int .u8 0, .int .u8 0, .int .u8 0], .agg #[.int .u8 0, .int .u8 0, .int .u8 0, .int .u8 0, .int .u8 0, .int .u8 0, .int .u8 0, .int .u8 0], .slice (some ⟨g, 0, none⟩) 2 2] w fun e w' =>
    ∃ A c, e = .returned (.slice A 2 c) ∧ Ext w w' := by
  have h := crypt_c 2 (fun _ => 0) (fun _ => 0) zky_byt z8_byt (some ⟨g, 0, none⟩) b S w (by omega) hr
  rw [hb, z16_tab, z8_tab] at h
  exact h.mono fun e w' ⟨A, c, h1, _, h2⟩ => ⟨A, c, h1, h2⟩
set_option maxRecDepth 100000 in
set_option maxHeartbeats 4000000 in
theorem awake_c (w : World) : Calls Try.prog 8 #[] w fun e w' => e = .returned (.bool true) ∧ Ext w w' := by
  go_enter Try.func8, Try.ntmps8
  go_wp2_with fail
  refine (ex_stream _).mono ?_
  rintro e w1 ⟨A, c, rfl, ho1, hx1⟩
  have HO1 := Lib.hid (ho1.ext (Ext.alloc w1 (.cells #[.int .u8 102, .int .u8 233, .int .u8 75] 5)))
  have HX1 := Lib.hid (hx1.tr (Ext.alloc w1 (.cells #[.int .u8 102, .int .u8 233, .int .u8 75] 5)))
  have HL1 := Lib.hid (RB.lit w1 [102, 233, 75] #[.int .u8 102, .int .u8 233, .int .u8 75] 5 rfl)
  clear ho1 hx1
  go_wp2_with fail
  refine (same_x A (some ⟨w1.heap.size, 0, none⟩) [0x66, 0xe9, 0x4b] [102, 233, 75] c 3 _ _ _ HO1.out.rb HL1.out (by decide) rfl).mono ?_
  rintro e w2 ⟨rfl, hx2⟩
  have HX2 := Lib.hid (HX1.out.tr hx2)
  clear hx2 HO1 HL1 HX1
  go_wp2_with fail
  refine (ex_none _).mono ?_
  rintro e w3 ⟨rfl, hx3⟩
  have HX3 := Lib.hid (HX2.out.tr hx3)
  clear hx3 HX2
  have HL3 := Lib.hid (RB.lit w3 [1, 2] #[.int .u8 1, .int .u8 2] 5 rfl)
  have HX3' := Lib.hid (HX3.out.tr (Ext.alloc w3 (.cells #[.int .u8 1, .int .u8 2] 5)))
  go_wp2_with fail
  refine (ex_crypt w3.heap.size _ [1, 2] rfl _ HL3.out).mono ?_
  rintro e w4 ⟨A4, c4, rfl, hx4⟩
  have HX4 := Lib.hid ((HX3'.out.tr hx4).tr (Ext.alloc w4 (.cells #[.int .u8 1] 5)))
  clear hx4 HX3 HX3' HL3
  go_wp2_with fail
  refine (next_nil _ _ _ _).mono ?_
  rintro e v ⟨rfl, rfl⟩
  go_wp2_with fail
  refine (used_nil _).mono ?_
  rintro e v ⟨rfl, rfl⟩
  go_wp2_with fail
  go_ret
  exact ⟨rfl, HX4.out⟩
end Go.Proofs.Ytdmfajcbbolfiaa
