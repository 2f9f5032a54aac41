/-
  Package tolllaw11: the example that every law asks first.
-/
import Derived.Test.YtgbdckiojjmncaaNamN
import Derived.Test.YtgbdckiojjmncaaBytC
namespace Go.Proofs.Ytgbdckiojjmncaa
open Go.RowKit

def xR : ByteArray := ⟨#[82]⟩
def xH : ByteArray := ⟨#[104, 111, 115, 116]⟩
def xB : ByteArray := ⟨#[97, 47, 98]⟩
def xT : ByteArray := ⟨#[104, 111, 115, 116, 47, 97, 92, 47, 98, 64, 82]⟩
theorem xvl : vl (bl xR) (bls [xH, xB]) = true := by kernel_rfl
theorem xtx : tx0 (bl xR) (bls [xH, xB]) = bl xT := by kernel_rfl
theorem xtxt : txt (bl xR) (bls [xH, xB]) = bl xT := by rw [txt, if_pos xvl, xtx]
theorem xprs : prs (bl xT) = some (bl xR, bls [xH, xB]) := by rw [← xtx]; exact prs_full xvl
theorem xno : prs (bl xH) = none := by
  unfold prs
  rw [show bl xH = esc [104, 111, 115, 116] by kernel_rfl, pp, nx_end]
  simp
theorem xlen : (nbs (bl xR) (bls [xH, xB])).length = 12 := by kernel_rfl
theorem xsr (w : World) (f : Nat × Nat) : SR (w.alloc (.cells #[.string xH, .string xB] 9 f)) (fun _ _ => True) (some ⟨w.heap.size, 0, none⟩) [xH, xB] := by
  intro _
  refine ⟨w.heap.size, 0, #[.string xH, .string xB], 9, f, rfl, new_of _ _, trivial, fun j s hj => ?_⟩
  match j, hj with
  | 0, hj => simpa using hj
  | 1, hj => simpa using hj

set_option maxRecDepth 100000 in
set_option maxHeartbeats 4000000 in
theorem awake_c (w : World) : Calls Try.prog 7 #[] w fun e w' => e = .returned (.bool true) ∧ Ext w w' := by
  obtain ⟨w1, hw1⟩ : ∃ w1 : World, w1 = (w.alloc (.cells #[.string xH, .string xB] 9)).alloc (.cells #[.string xR, .slice (some ⟨w.heap.size, 0, none⟩) 2 2] 24) := ⟨_, rfl⟩
  have hx1 : Ext w w1 := by rw [hw1]; exact (Ext.alloc _ _).tr (Ext.alloc _ _)
  have hd1 : w1.heap[w.heap.size + 1]? = some (.cells #[.string xR, .slice (some ⟨w.heap.size, 0, none⟩) 2 2] 24 (0, 0)) := by rw [hw1]; exact (two_new _ _ _).2
  have hs1 : SR w1 (fun k _ => k < w1.heap.size) (some ⟨w.heap.size, 0, none⟩) [xH, xB] := by rw [hw1]; exact ((xsr w _).ext (Ext.alloc _ _)).inside.more (fun _ _ h => h.2)
  have hp1 := parse_c xT w1 (by decide)
  rw [xprs] at hp1
  have W1 := Lib.hid hw1
  have X1 := Lib.hid hx1
  have D1 := Lib.hid hd1
  have S1 := Lib.hid hs1
  have P1 := Lib.hid hp1
  clear hw1 hx1 hd1 hs1 hp1
  go_enter Try.func7, Try.ntmps7
  go_wp2_with fail
  show Calls _ _ _ ((w.alloc (.cells #[.string xH, .string xB] 9)).alloc (.cells #[.string xR, .slice (some ⟨w.heap.size, 0, none⟩) 2 2] 24)) _
  rw [← W1.out]
  refine P1.out.mono ?_
  rintro e w2 ⟨v, rfl, ⟨t, A2, c2, ss, rfl, hsr2, hc2, hm2, hbt, hbu⟩, hx2⟩
  obtain rfl : t = xR := bl_ext hbt
  obtain rfl : ss = [xH, xB] := bls_ext hbu
  have hxa := hx2.tr (Ext.alloc w2 (.cells #[.string xR, .slice A2 2 c2] 24))
  have X2 := Lib.hid (X1.out.tr hxa)
  have D2 := Lib.hid (hxa.get D1.out)
  have S2 := Lib.hid ((S1.out.ext hxa).inside.more (T := fun k _ => k < (w2.alloc (.cells #[.string xR, .slice A2 2 c2] 24)).heap.size) (fun _ _ h => h.2))
  have M2 := Lib.hid (new_of w2 (.cells #[.string xR, .slice A2 2 c2] 24))
  have R2 := Lib.hid ((hsr2.ext (Ext.alloc w2 (.cells #[.string xR, .slice A2 2 c2] 24))).inside.more (T := fun k _ => k < (w2.alloc (.cells #[.string xR, .slice A2 2 c2] 24)).heap.size) (fun _ _ h => h.2))
  obtain ⟨w3, hw3⟩ : ∃ w3 : World, w3 = w2.alloc (.cells #[.string xR, .slice A2 2 c2] 24) := ⟨_, rfl⟩
  have a0 : (w2.alloc (.cells #[.string xR, .slice A2 2 c2] 24)).cell? ⟨w.heap.size + 1, 0, none⟩ = some (.string xR) := cells_of D2.out 0
  have a1 : (w2.alloc (.cells #[.string xR, .slice A2 2 c2] 24)).cell? ⟨w.heap.size + 1, 1, none⟩ = some (.slice (some ⟨w.heap.size, 0, none⟩) 2 2) := cells_of D2.out 1
  rw [← hw3] at X2 D2 S2 M2 R2
  have hpb := nbytes_c xR (some ⟨w.heap.size, 0, none⟩) 2 [xH, xB] _ w3 S2.out (by decide) (by decide) (by decide) xvl
  obtain ⟨bs, hbs⟩ : ∃ bs, bs = nbs (bl xR) (bls [xH, xB]) := ⟨_, rfl⟩
  rw [← hbs] at hpb
  have PB := Lib.hid hpb
  have W3 := Lib.hid hw3
  have BS := Lib.hid hbs
  clear hx2 hxa hw3 hsr2 hbt hpb hbs hbu hc2 hm2 P1 D1 S1
  rw [show [xH, xB].length = 2 from rfl]
  go_wp2_with fail
  rw [← W3.out]
  refine PB.out.mono ?_
  rintro e w4 ⟨B, d, rfl, hob, hx4⟩
  have X4 := Lib.hid (X2.out.tr hx4)
  have D4 := Lib.hid (hx4.get D2.out)
  have M4 := Lib.hid (hx4.get M2.out)
  have S4 := Lib.hid (S2.out.grown (hx4.grown none) (fun g t h => by simp))
  have R4 := Lib.hid (R2.out.grown (hx4.grown none) (fun g t h => by simp))
  have OB := Lib.hid hob
  have hle : w.heap.size + 2 ≤ w3.heap.size ∧ w2.heap.size < w3.heap.size := ⟨lt_of_some D2.out, lt_of_some M2.out⟩
  have hp2 := parse_c xH w4 (by decide)
  rw [xno] at hp2
  have P2 := Lib.hid hp2
  have P2sz := Lib.hid hx4.size
  clear hob hx4 hp2 a0 a1 PB D2 S2 M2 R2 X2 W3
  go_wp2_with fail
  refine P2.out.mono ?_
  rintro e w5 ⟨v5, rfl, ⟨t5, A5, c5, ss5, rfl, _, _, _, _, _⟩, hx5⟩
  have hx5' := hx5.tr (Ext.alloc w5 (.cells #[.string t5, .slice A5 ss5.length c5] 24))
  have hl12 : bs.length ≤ 12 ∧ 12 ≤ bs.length := by rw [BS.out, xlen]; omega
  have hsz5 := hx5'.size
  have hx45 : w3.heap.size ≤ w4.heap.size := by
    have := P2sz.out
    omega
  have X5 := Lib.hid (X4.out.tr hx5')
  have D5 := Lib.hid (hx5'.get D4.out)
  have M5 := Lib.hid (hx5'.get M4.out)
  have S5 := Lib.hid (S4.out.ext hx5')
  have R5 := Lib.hid (R4.out.ext hx5')
  have OB5 := Lib.hid (OB.out.ext hx5')
  clear hx5 hx5' P2 X4 D4 M4 S4 R4 OB
  go_wp2_with fail
  refine (rdnew_c B d bs _ _ OB5.out.rb (by omega)).mono ?_
  rintro e w7 ⟨g, C7, rfl, hg7, hrd7, hx7⟩
  have hsz7 := hx7.size
  have X7 := Lib.hid (X5.out.tr hx7)
  have D7 := Lib.hid (hx7.get D5.out)
  have M7 := Lib.hid (hx7.get M5.out)
  have S7 := Lib.hid (S5.out.ext hx7)
  have R7 := Lib.hid (R5.out.ext hx7)
  have hrn : rnm bs false = some (bl xR, bls [xH, xB]) := by
    have := (rnm_nbs xvl []).1
    rw [List.append_nil] at this
    rw [BS.out]
    exact this
  have hrc := read_c w7 hrd7 (by rintro k ⟨_, h, _⟩; exact absurd h (by decide)) (by omega)
  rw [hrn] at hrc
  have RC := Lib.hid hrc
  clear hrd7 hrn hrc hx7 X5 D5 M5 S5 R5 OB5
  go_wp2_with fail
  refine RC.out.mono ?_
  rintro e w8 ⟨v8, rfl, ⟨t8, A8, c8, ss8, rfl, hsr8, _, _, hbt, hbu⟩, _, hgr⟩
  obtain rfl : t8 = xR := bl_ext hbt
  obtain rfl : ss8 = [xH, xB] := bls_ext hbu
  have hgk : w3.heap.size ≤ g := by omega
  have hxa := Ext.alloc w8 (.cells #[.string xR, .slice A8 2 c8] 24)
  have X9 := Lib.hid ((grown_new X7.out hgr (fun q h => by injection h with h; omega)).tr hxa)
  have D9 := Lib.hid (hxa.get (grown_get hgr D7.out (fun h => by injection h with h; omega)))
  have M9 := Lib.hid (hxa.get (grown_get hgr M7.out (fun h => by injection h with h; omega)))
  have S9 := Lib.hid ((S7.out.grown hgr (fun q _ hq h => by injection h with h; omega)).ext hxa)
  have R9 := Lib.hid ((R7.out.grown hgr (fun q _ hq h => by injection h with h; omega)).ext hxa)
  have Y9 := Lib.hid (new_of w8 (.cells #[.string xR, .slice A8 2 c8] 24))
  have Z9 := Lib.hid (hsr8.ext hxa)
  rw [show [xH, xB].length = 2 from rfl]
  have a0 : (w8.alloc (.cells #[.string xR, .slice A8 2 c8] 24)).cell? ⟨w.heap.size + 1, 0, none⟩ = some (.string xR) := cells_of (D9.out) 0
  have a1 : (w8.alloc (.cells #[.string xR, .slice A8 2 c8] 24)).cell? ⟨w.heap.size + 1, 1, none⟩ = some (.slice (some ⟨w.heap.size, 0, none⟩) 2 2) := cells_of (D9.out) 1
  have tT : xT.toList = [104, 111, 115, 116, 47, 97, 92, 47, 98, 64, 82] := by rw [bl_toList]; rfl
  have t12 := beq_t (a := (bs.length : Int)) (b := 12) (by omega)
  clear hbt hbu hsr8 hgr hxa RC X7 D7 M7 S7 R7 hsz5 hsz7 hl12 hx45 hle hgk hg7 BS
  go_wp2_with fail
  refine (text_c xR (some ⟨w.heap.size, 0, none⟩) 2 [xH, xB] _ _ S9.out (by decide) (by decide) (by decide)).mono ?_
  rintro e w10 ⟨t10, rfl, ht10, hx10⟩
  obtain rfl : t10 = xT := bl_ext (ht10.trans xtxt)
  have b0 : w10.cell? ⟨w.heap.size + 1, 0, none⟩ = some (.string xR) := cells_of (hx10.get D9.out) 0
  have b1 : w10.cell? ⟨w.heap.size + 1, 1, none⟩ = some (.slice (some ⟨w.heap.size, 0, none⟩) 2 2) := cells_of (hx10.get D9.out) 1
  have c0 : w10.cell? ⟨w2.heap.size, 0, none⟩ = some (.string xR) := cells_of (hx10.get M9.out) 0
  have c1 : w10.cell? ⟨w2.heap.size, 1, none⟩ = some (.slice A2 2 c2) := cells_of (hx10.get M9.out) 1
  have H10 := Lib.hid hx10
  clear ht10 hx10 a0 a1
  go_wp2_with fail
  refine (nsame_c xR xR A2 (some ⟨w.heap.size, 0, none⟩) c2 2 [xH, xB] [xH, xB] _ _ w10 (R9.out.ext H10.out) (S9.out.ext H10.out) (by decide) (by decide)).mono ?_
  rintro e w11 ⟨rfl, hx11⟩
  rw [show sm xR [xH, xB] xR [xH, xB] = true from sm_t rfl rfl]
  have H11 := Lib.hid (H10.out.tr hx11)
  have d0 : w11.cell? ⟨w.heap.size + 1, 0, none⟩ = some (.string xR) := cells_of (H11.out.get D9.out) 0
  have d1 : w11.cell? ⟨w.heap.size + 1, 1, none⟩ = some (.slice (some ⟨w.heap.size, 0, none⟩) 2 2) := cells_of (H11.out.get D9.out) 1
  have e0 : w11.cell? ⟨w8.heap.size, 0, none⟩ = some (.string xR) := cells_of (H11.out.get Y9.out) 0
  have e1 : w11.cell? ⟨w8.heap.size, 1, none⟩ = some (.slice A8 2 c8) := cells_of (H11.out.get Y9.out) 1
  clear hx11 b0 b1 c0 c1
  go_wp2_with fail
  refine (nsame_c xR xR A8 (some ⟨w.heap.size, 0, none⟩) c8 2 [xH, xB] [xH, xB] _ _ w11 (Z9.out.ext H11.out) (S9.out.ext H11.out) (by decide) (by decide)).mono ?_
  rintro e w12 ⟨rfl, hx12⟩
  rw [show sm xR [xH, xB] xR [xH, xB] = true from sm_t rfl rfl]
  have H12 := Lib.hid (H11.out.tr hx12)
  have f0 : w12.cell? ⟨w.heap.size + 1, 0, none⟩ = some (.string xR) := cells_of (H12.out.get D9.out) 0
  have f1 : w12.cell? ⟨w.heap.size + 1, 1, none⟩ = some (.slice (some ⟨w.heap.size, 0, none⟩) 2 2) := cells_of (H12.out.get D9.out) 1
  clear hx12 d0 d1 e0 e1
  go_wp2_with fail
  refine (valid_c xR (some ⟨w.heap.size, 0, none⟩) 2 [xH, xB] _ w12 (S9.out.ext H12.out) (by decide) (by decide) (by decide)).mono ?_
  rintro e w13 ⟨rfl, hx13⟩
  rw [xvl]
  have H13 := Lib.hid (H12.out.tr hx13)
  clear hx13 f0 f1
  go_wp2_with fail
  refine (valid_c ⟨#[]⟩ none 0 [] (fun _ _ => True) w13 (SR.nil _ _ _) (by decide) (by decide) (by decide)).mono ?_
  rintro e w14 ⟨rfl, hx14⟩
  rw [show vl (bl ⟨#[]⟩) (bls []) = false by kernel_rfl]
  go_wp2_with fail
  go_ret
  exact ⟨rfl, X9.out.tr (H13.out.tr hx14)⟩
end Go.Proofs.Ytgbdckiojjmncaa
