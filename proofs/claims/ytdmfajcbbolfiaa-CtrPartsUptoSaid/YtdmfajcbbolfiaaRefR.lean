/-
  The reference's round.
-/
import Derived.Test.YtdmfajcbbolfiaaRefK
namespace Go.Proofs.Ytdmfajcbbolfiaa
open Go.RowKit
set_option linter.unusedVariables false
set_option linter.unusedSimpArgs false

/-- the bytes that are there: column c, up to row r -/
def prt (g : Bk) (c r : Nat) : Bk := fun j => if j < 4 * c + r then g j else 0
theorem prt_4 (g : Bk) (c : Nat) : prt g c 4 = prt g (c + 1) 0 := by
  funext j
  unfold prt
  by_cases h : j < 4 * c + 4
  · rw [if_pos h, if_pos (by omega)]
  · rw [if_neg h, if_neg (by omega)]
theorem Arr.prt_set {w : World} {b : Nat} {t : TypeId} {g : Bk} {c r : Nat} (h : Arr w b t .u8 16 (prt g c r)) (hc : c < 4) (hr : r < 4) {v : Int} {off : Nat} (ho : off = 4 * c + r) (hv : v = (g (4 * c + r) : Nat)) :
    Arr (w.setCell ⟨b, off, none⟩ (.int .u8 v)) b t .u8 16 (prt g c (r + 1)) := by
  subst ho
  refine h.to (by omega) (by rw [hv]; unfold prt; rw [if_pos (by omega)]) (fun j _ hne => ?_)
  unfold prt
  by_cases h1 : j < 4 * c + r
  · rw [if_pos h1, if_pos (by omega)]
  · rw [if_neg h1, if_neg (by omega)]
/-- the blocks of the reference's Round -/
def Rr (w wr : World) (f k : Bk) (S : Nat → Nat) : Prop :=
  Arr wr (w.heap.size + 1 + 1 + 1 + 1) 22 .u8 16 S ∧ Arr wr w.heap.size 22 .u8 16 f ∧ Arr wr (w.heap.size + 1) 22 .u8 16 k ∧ Arr wr (w.heap.size + 1 + 1) 42 .u8 256 sb ∧
    Arr wr (w.heap.size + 1 + 1 + 1) 22 .u8 16 (fun _ => 0) ∧ Ext w wr
theorem Rr.ext {w wr wr' : World} {f k : Bk} {S : Nat → Nat} (h : Rr w wr f k S) (hx : Ext wr wr') : Rr w wr' f k S := ⟨h.1.ext hx, h.2.1.ext hx, h.2.2.1.ext hx, h.2.2.2.1.ext hx, h.2.2.2.2.1.ext hx, h.2.2.2.2.2.tr hx⟩
theorem Rr.far {w wr : World} {f k : Bk} {S : Nat → Nat} (h : Rr w wr f k S) {g o : Nat} (hp : w.heap.size + 1 + 1 + 1 + 1 < g) (u : Value) : Rr w (wr.setCell ⟨g, o, none⟩ u) f k S :=
  ⟨h.1.other (by omega) _ _, h.2.1.other (by omega) _ _, h.2.2.1.other (by omega) _ _, h.2.2.2.1.other (by omega) _ _, h.2.2.2.2.1.other (by omega) _ _, ext_setCell h.2.2.2.2.2 (by simp; omega) _⟩
theorem Rr.set_ {w wr : World} {f k : Bk} {g : Bk} {c r : Nat} (h : Rr w wr f k (prt g c r)) (hc : c < 4) (hr : r < 4) {v : Int} {off : Nat} (ho : off = 4 * c + r) (hv : v = (g (4 * c + r) : Nat)) :
    Rr w (wr.setCell ⟨w.heap.size + 1 + 1 + 1 + 1, off, none⟩ (.int .u8 v)) f k (prt g c (r + 1)) :=
  ⟨h.1.prt_set hc hr ho hv, h.2.1.other (by omega) _ _, h.2.2.1.other (by omega) _ _, h.2.2.2.1.other (by omega) _ _, h.2.2.2.2.1.other (by omega) _ _, ext_setCell h.2.2.2.2.2 (by simp; omega) _⟩
theorem new5 (w : World) (o p q r s : Obj) : (((((w.alloc o).alloc p).alloc q).alloc r).alloc s).heap[w.heap.size]? = some o ∧ (((((w.alloc o).alloc p).alloc q).alloc r).alloc s).heap[w.heap.size + 1]? = some p ∧
    (((((w.alloc o).alloc p).alloc q).alloc r).alloc s).heap[w.heap.size + 1 + 1]? = some q ∧ (((((w.alloc o).alloc p).alloc q).alloc r).alloc s).heap[w.heap.size + 1 + 1 + 1]? = some r ∧
    (((((w.alloc o).alloc p).alloc q).alloc r).alloc s).heap[w.heap.size + 1 + 1 + 1 + 1]? = some s := by
  obtain ⟨h1, h2, h3, h4⟩ := new4 w o p q r
  have x1 := (Ext.alloc ((((w.alloc o).alloc p).alloc q).alloc r) s)
  refine ⟨x1.get h1, x1.get h2, x1.get h3, x1.get h4, ?_⟩
  have h := new_of ((((w.alloc o).alloc p).alloc q).alloc r) s
  rw [show ((((w.alloc o).alloc p).alloc q).alloc r).heap.size = w.heap.size + 1 + 1 + 1 + 1 by simp] at h
  exact h
theorem rr_start (w : World) (f k g : Bk) :
    Rr w (((((w.alloc (.cells (tabV .u8 16 f) 22)).alloc (.cells (tabV .u8 16 k) 22)).alloc (.cells (tabV .u8 256 sb) 42)).alloc (.cells (tabV .u8 16 (fun _ => 0)) 22)).alloc (.cells (tabV .u8 16 (fun _ => 0)) 22)) f k (prt g 0 0) := by
  obtain ⟨h0, h1, h2, h3, h4⟩ := new5 w (.cells (tabV .u8 16 f) 22) (.cells (tabV .u8 16 k) 22) (.cells (tabV .u8 256 sb) 42) (.cells (tabV .u8 16 (fun _ => 0)) 22) (.cells (tabV .u8 16 (fun _ => 0)) 22)
  refine ⟨Arr.congr (f := fun _ => 0) h4 (fun i _ => ?_), h0, h1, h2, h3, ((((Ext.alloc _ _).tr (Ext.alloc _ _)).tr (Ext.alloc _ _)).tr (Ext.alloc _ _)).tr (Ext.alloc _ _)⟩
  unfold prt
  rw [if_neg (by omega)]
theorem rnd_last (f k : Bk) {i : Nat} : rnd f k true i = mv 1 (ea sb f) i ^^^ k i := rfl
theorem tm4 (r k s : Nat) (h : s = (r + k) % 4) : ((r : Int) + (k : Int)).tmod 4 = (s : Int) := by rw [Int.tmod_eq_emod_of_nonneg (by omega)]; omega
theorem a4 {s d : Nat} (hs : s < 4) (hd : d < 4) : IntKind.i64.wrap ((s : Int) + 4 * (d : Int)) = (s : Int) + 4 * (d : Int) ∧ ((s : Int) + 4 * (d : Int)).toNat = s + 4 * d ∧ (s : Int) + 4 * (d : Int) < 16 ∧ s + 4 * d < 16 ∧ 4 * d + s = s + 4 * d :=
  ⟨IntWalk.i64_in _ (by omega), by omega, by omega, by omega, by omega⟩
theorem wad {r : Nat} (hr : r < 4) : IntKind.i64.wrap ((r : Int) + 1) = (r : Int) + 1 ∧ IntKind.i64.wrap ((r : Int) + 2) = (r : Int) + 2 ∧ IntKind.i64.wrap ((r : Int) + 3) = (r : Int) + 3 :=
  ⟨IntWalk.i64_in _ (by omega), IntWalk.i64_in _ (by omega), IntWalk.i64_in _ (by omega)⟩
theorem em4 (r s : Nat) (h : s = (r + 1) % 4) : ((r : Int) + 1) % 4 = (s : Int) := by omega
theorem meas4 {r : Nat} (h : r < 4) : 4 - (intOf (Value.int .i64 ((r : Int) + 1))).toNat < 4 - (intOf (Value.int .i64 (r : Int))).toNat := by
  simp only [intOf]
  omega
theorem gm13 : ∀ x < 256, gm 1 x = x ∧ gm 3 x = gm 2 x ^^^ x := by decide +kernel
theorem rnd_mid (f k : Bk) (hf : Byt f) {c r : Nat} (hc : c < 4) (hr : r < 4) : rnd f k false (4 * c + r) =
    ((((gm 2 (mv 1 (ea sb f) (4 * c + r)) ^^^ gm 2 (mv 1 (ea sb f) (4 * c + (r + 1) % 4))) ^^^ mv 1 (ea sb f) (4 * c + (r + 1) % 4)) ^^^ mv 1 (ea sb f) (4 * c + (r + 2) % 4)) ^^^ mv 1 (ea sb f) (4 * c + (r + 3) % 4)) ^^^ k (4 * c + r) := by
  show mx b1 (mv 1 (ea sb f)) (4 * c + r) ^^^ k (4 * c + r) = _
  rw [mx_m4 b1 _ hr]
  have hs := mv_byt 1 (ea_sb hf)
  obtain ⟨s, hse⟩ : ∃ s, s = mv 1 (ea sb f) := ⟨_, rfl⟩
  rw [← hse] at hs ⊢
  have h1 := (gm13 _ (hs (4 * c + (r + 1) % 4) (by omega))).2
  have h2 := (gm13 _ (hs (4 * c + (r + 2) % 4) (by omega))).1
  have h3 := (gm13 _ (hs (4 * c + (r + 3) % 4) (by omega))).1
  show (gm 2 (s (4 * c + r)) ^^^ (gm 3 (s (4 * c + (r + 1) % 4)) ^^^ (gm 1 (s (4 * c + (r + 2) % 4)) ^^^ gm 1 (s (4 * c + (r + 3) % 4))))) ^^^ k (4 * c + r) = _
  rw [h1, h2, h3]
  simp only [Nat.xor_assoc]
theorem Rr.congr {w wr : World} {f k : Bk} {F F' : Nat → Nat} (h : Rr w wr f k F) (hF : ∀ i, i < 16 → F i = F' i) : Rr w wr f k F' := ⟨h.1.congr hF, h.2⟩

set_option maxRecDepth 100000 in
set_option maxHeartbeats 8000000 in
theorem rround_c (f k : Bk) (hf : Byt f) (hk : Byt k) (last : Bool) (w : World) :
    Calls Try.prog 30 #[.agg (tabV .u8 16 f), .agg (tabV .u8 16 k), .bool last, .agg (tabV .u8 256 sb)] w fun e w' => e = .returned (.agg (tabV .u8 16 (rnd f k last))) ∧ Ext w w' := by
  have HF := Lib.hid hf
  have HK := Lib.hid hk
  clear hf hk
  go_enter Try.func30, Try.ntmps30
  go_wp2_with fail
  go_loopw [10] (fun v wr => ∃ c : Nat, c ≤ 4 ∧ v = .int .i64 c ∧ Rr w wr f k (prt (mv 1 (ea sb f)) c 0)) (fun v _ => 4 - (intOf v).toNat)
  case atStart => exact ⟨0, by omega, rfl, rr_start w f k _⟩
  case round =>
    obtain ⟨c, hc, rfl, hR⟩ := hrel
    by_cases hlt : c < 4
    · have i1 : (c : Int) < 4 := by omega
      have HR := Lib.hid hR
      clear hR
      go_wp2_with fail
      go_loopw [11] (fun v wi => ∃ r : Nat, r ≤ 4 ∧ v = .int .i64 r ∧ Rr w wi f k (prt (mv 1 (ea sb f)) c r)) (fun v _ => 4 - (intOf v).toNat)
      case atStart => exact ⟨0, by omega, rfl, HR.out⟩
      case round =>
        obtain ⟨r, hr, rfl, hR⟩ := hrel
        by_cases hlr : r < 4
        · obtain ⟨s, hs⟩ : ∃ s, s = (c + r) % 4 := ⟨_, rfl⟩
          have c0 := hR.2.1.cell (i := r + 4 * s) (by omega)
          have hb := HF.out (r + 4 * s) (by omega)
          have c1 := hR.2.2.2.1.cell (i := f (r + 4 * s)) hb
          have c2 := hR.1.cell (i := r + 4 * c) (by omega)
          have f2 := hR.1.free (r + 4 * c)
          have hv : sb (f (r + 4 * s)) = mv 1 (ea sb f) (4 * c + r) := by
            unfold mv ea
            rw [show (4 * c + r) % 4 + 4 * (((4 * c + r) / 4 + 1 * ((4 * c + r) % 4)) % 4) = r + 4 * s by omega]
          obtain ⟨x, hx⟩ : ∃ x, x = f (r + 4 * s) := ⟨_, rfl⟩
          rw [← hx] at c0 c1 hb hv
          have m0 : ((c : Int) + (r : Int)).tmod 4 = (s : Int) := by rw [Int.tmod_eq_emod_of_nonneg (by omega)]; omega
          have m1 : ((c : Int) + (r : Int)) % 4 = (s : Int) := by omega
          have q1 : IntKind.i64.wrap (4 * (c : Int)) = 4 * c := IntWalk.i64_in _ (by omega)
          have q2 : IntKind.i64.wrap ((r : Int) + 4 * (c : Int)) = r + 4 * c := IntWalk.i64_in _ (by omega)
          have q3 : IntKind.i64.wrap ((c : Int) + (r : Int)) = c + r := IntWalk.i64_in _ (by omega)
          have q4 : IntKind.i64.wrap (4 * (s : Int)) = 4 * s := IntWalk.i64_in _ (by omega)
          have q5 : IntKind.i64.wrap ((r : Int) + 4 * (s : Int)) = r + 4 * s := IntWalk.i64_in _ (by omega)
          have t2 : ((r : Int) + 4 * (c : Int)).toNat = r + 4 * c := by omega
          have t5 : ((r : Int) + 4 * (s : Int)).toNat = r + 4 * s := by omega
          have l1 : (r : Int) + 4 * (c : Int) < 16 := by omega
          have l2 : (r : Int) + 4 * (s : Int) < 16 := by omega
          have l3 : (x : Int) < 256 := by omega
          have l4 : (r : Int) < 4 := by omega
          have HV := Lib.hid hv
          have HR := Lib.hid hR
          clear hR hv hx hs
          go_wp2_with fail
          go_roundw
          case rel => exact ⟨r + 1, by omega, by go_num, HR.out.set_ hlt hlr (by omega) (by rw [HV.out])⟩
          case measure => simp [intOf]; omega
        · have e4 : r = 4 := by omega
          subst e4
          rw [prt_4] at hR
          have HR := Lib.hid hR
          clear hR
          go_wp2_with fail
          go_roundw
          case rel => exact ⟨c + 1, by omega, by go_num, HR.out⟩
          case measure => simp [intOf]; omega
    · have e4 : c = 4 := by omega
      have i1 : ¬ (c : Int) < 4 := by omega
      rw [e4] at hR
      have HR := Lib.hid (hR.congr (F' := mv 1 (ea sb f)) (fun j hj => by unfold prt; rw [if_pos (by omega)]))
      have HGL := Lib.hid (show w.heap.size + 1 + 1 + 1 + 1 < wr.heap.size from hR.1.lt)
      have HZ := Lib.hid (Arr.new wr 22 .u8 16 (fun _ => 0))
      have hsb := mv_byt 1 (ea_sb HF.out)
      have hmid := fun c r (hc : c < 4) (hr : r < 4) => rnd_mid f k HF.out hc hr
      have hlast := fun i => rnd_last f k (i := i)
      obtain ⟨s, hs⟩ : ∃ s, s = mv 1 (ea sb f) := ⟨_, rfl⟩
      rw [← hs] at HR hsb hmid hlast
      have HSB := Lib.hid hsb
      have HMID := Lib.hid hmid
      have HLAST := Lib.hid hlast
      clear hR e4 hsb hmid hlast hs
      go_wp2_with fail
      obtain ⟨go, hgo⟩ : ∃ go, go = wr.heap.size := ⟨_, rfl⟩
      obtain ⟨w2, hw2⟩ : ∃ w2, w2 = wr.alloc (.cells (tabV .u8 16 (fun _ => 0)) 22) := ⟨_, rfl⟩
      have HR2 : Hid (Rr w w2 f k s) := Lib.hid (by rw [hw2]; exact HR.out.ext (Ext.alloc _ _))
      have HO2 : Hid (Arr w2 go 22 .u8 16 (fun _ => 0)) := Lib.hid (by rw [hw2, hgo]; exact HZ.out)
      rw [← hgo] at HGL
      change Code.wp _ _ _ _ (wr.alloc (.cells (tabV .u8 16 (fun _ => 0)) 22))
      rw [← hgo, ← hw2]
      clear hgo hw2 HR HZ
      go_loopw [13] (fun v wi => ∃ c : Nat, c ≤ 4 ∧ v = .int .i64 c ∧ Arr wi go 22 .u8 16 (prt (rnd f k last) c 0) ∧ Rr w wi f k s) (fun v _ => 4 - (intOf v).toNat)
      case atStart => exact ⟨0, by omega, rfl, HO2.out.congr (fun j _ => by unfold prt; rw [if_neg (by omega)]), HR2.out⟩
      case round =>
        obtain ⟨d, hd, rfl, hO, hR⟩ := hrel
        by_cases hld : d < 4
        · have i2 : (d : Int) < 4 := by omega
          have HO := Lib.hid hO
          have HR := Lib.hid hR
          clear hO hR
          go_wp2_with fail
          go_loopw [14] (fun v wi => ∃ r : Nat, r ≤ 4 ∧ v = .int .i64 r ∧ Arr wi go 22 .u8 16 (prt (rnd f k last) d r) ∧ Rr w wi f k s) (fun v _ => 4 - (intOf v).toNat)
          case atStart => exact ⟨0, by omega, rfl, HO.out, HR.out⟩
          case round =>
            obtain ⟨r, hr, rfl, hO, hR⟩ := hrel
            by_cases hlr : r < 4
            · have a0 := hR.1.cell (i := r + 4 * d) (by omega)
              rw [show r + 4 * d = 4 * d + r by omega] at a0
              rw [← show r + 4 * d = 4 * d + r by omega] at a0
              have ak := hR.2.2.1.cell (i := r + 4 * d) (by omega)
              have ao := hO.cell (i := r + 4 * d) (by omega)
              have fo := hO.free (r + 4 * d)
              have hx0 := HSB.out (r + 4 * d) (by omega)
              have hkb := HK.out (r + 4 * d) (by omega)
              have q1 : IntKind.i64.wrap (4 * (d : Int)) = 4 * d := IntWalk.i64_in _ (by omega)
              have q2 : IntKind.i64.wrap ((r : Int) + 4 * (d : Int)) = r + 4 * d := IntWalk.i64_in _ (by omega)
              have t2 : ((r : Int) + 4 * (d : Int)).toNat = r + 4 * d := by omega
              have l1 : (r : Int) + 4 * (d : Int) < 16 := by omega
              have l4 : (r : Int) < 4 := by omega
              cases last with
              | true =>
                have hv := HLAST.out (r + 4 * d)
                obtain ⟨x0, hxe⟩ : ∃ x, x = s (r + 4 * d) := ⟨_, rfl⟩
                obtain ⟨y, hye⟩ : ∃ y, y = k (r + 4 * d) := ⟨_, rfl⟩
                rw [← hxe] at a0 hx0 hv
                rw [← hye] at ak hkb hv
                have q0 := u8_xor_nat _ _ hx0 hkb
                have HV := Lib.hid hv
                have HO := Lib.hid hO
                have HR := Lib.hid hR
                clear hO hR hv hxe hye
                go_wp2_with fail
                go_roundw
                case rel => exact ⟨r + 1, by omega, by go_num, HO.out.prt_set hld hlr (by omega) (by rw [show 4 * d + r = r + 4 * d by omega, HV.out]), HR.out.far HGL.out _⟩
                case measure => simp [intOf]; omega
              | false =>
                obtain ⟨s1, hs1⟩ : ∃ s1, s1 = (r + 1) % 4 := ⟨_, rfl⟩
                obtain ⟨s2, hs2⟩ : ∃ s2, s2 = (r + 2) % 4 := ⟨_, rfl⟩
                obtain ⟨s3, hs3⟩ : ∃ s3, s3 = (r + 3) % 4 := ⟨_, rfl⟩
                have n1 := em4 r s1 hs1
                have k1 : s1 < 4 := by rw [hs1]; exact Nat.mod_lt _ (by decide)
                have k2 : s2 < 4 := by rw [hs2]; exact Nat.mod_lt _ (by decide)
                have k3 : s3 < 4 := by rw [hs3]; exact Nat.mod_lt _ (by decide)
                obtain ⟨w1', w2', w3'⟩ := wad hlr
                obtain ⟨p1, t11, l11, o1, e1⟩ := a4 k1 hld
                obtain ⟨p2, t12, l12, o2, e2⟩ := a4 k2 hld
                obtain ⟨p3, t13, l13, o3, e3⟩ := a4 k3 hld
                obtain ⟨_, _, _, o0, e0⟩ := a4 hlr hld
                obtain ⟨wd, hwd⟩ : ∃ wd, wd = wr.drew := ⟨_, rfl⟩
                have xd : Ext wr wd := by rw [hwd]; exact Ext.drew _
                have a1 := hR.1.cell (i := s1 + 4 * d) o1
                have a2 := (hR.ext xd).1.cell (i := s2 + 4 * d) o2
                have a3 := (hR.ext xd).1.cell (i := s3 + 4 * d) o3
                have ak2 := (hR.ext xd).2.2.1.cell (i := r + 4 * d) o0
                have ao2 := (hO.ext xd).cell (i := r + 4 * d) o0
                have fo2 := (hO.ext xd).free (r + 4 * d)
                have hx1 := HSB.out (s1 + 4 * d) o1
                have hx2 := HSB.out (s2 + 4 * d) o2
                have hx3 := HSB.out (s3 + 4 * d) o3
                have hv := HMID.out d r hld hlr
                rw [← hs1, ← hs2, ← hs3, e0, e1, e2, e3] at hv
                obtain ⟨x0, hxe⟩ : ∃ x, x = s (r + 4 * d) := ⟨_, rfl⟩
                obtain ⟨x1, hxe1⟩ : ∃ x, x = s (s1 + 4 * d) := ⟨_, rfl⟩
                obtain ⟨x2, hxe2⟩ : ∃ x, x = s (s2 + 4 * d) := ⟨_, rfl⟩
                obtain ⟨x3, hxe3⟩ : ∃ x, x = s (s3 + 4 * d) := ⟨_, rfl⟩
                obtain ⟨y, hye⟩ : ∃ y, y = k (r + 4 * d) := ⟨_, rfl⟩
                rw [← hxe] at a0 hx0 hv
                rw [← hxe1] at a1 hx1 hv
                rw [← hxe2] at a2 hx2 hv
                rw [← hxe3] at a3 hx3 hv
                rw [← hye] at ak ak2 hkb hv
                have g0 := gm_lt (show 2 < 256 by decide) hx0
                have g1 := gm_lt (show 2 < 256 by decide) hx1
                have ht0 := fun W => twice_c x0 hx0 W
                have ht1 := fun W => twice_c x1 hx1 W
                obtain ⟨y0, hy0⟩ : ∃ y, y = gm 2 x0 := ⟨_, rfl⟩
                obtain ⟨y1, hy1⟩ : ∃ y, y = gm 2 x1 := ⟨_, rfl⟩
                rw [← hy0] at g0 ht0 hv
                rw [← hy1] at g1 ht1 hv
                have b1 := u8_xor_nat _ _ g0 g1
                have g2 := xor8 g0 g1
                obtain ⟨z1, hz1⟩ : ∃ z, z = y0 ^^^ y1 := ⟨_, rfl⟩
                rw [← hz1] at b1 g2 hv
                have b2 := u8_xor_nat _ _ g2 hx1
                have g3 := xor8 g2 hx1
                obtain ⟨z2, hz2⟩ : ∃ z, z = z1 ^^^ x1 := ⟨_, rfl⟩
                rw [← hz2] at b2 g3 hv
                have b3 := u8_xor_nat _ _ g3 hx2
                have g4 := xor8 g3 hx2
                obtain ⟨z3, hz3⟩ : ∃ z, z = z2 ^^^ x2 := ⟨_, rfl⟩
                rw [← hz3] at b3 g4 hv
                have b4 := u8_xor_nat _ _ g4 hx3
                have g5 := xor8 g4 hx3
                obtain ⟨z4, hz4⟩ : ∃ z, z = z3 ^^^ x3 := ⟨_, rfl⟩
                rw [← hz4] at b4 g5 hv
                have b5 := u8_xor_nat _ _ g5 hkb
                obtain ⟨z5, hz5⟩ : ∃ z, z = z4 ^^^ y := ⟨_, rfl⟩
                rw [← hz5] at b5 hv
                have HT0 := Lib.hid ht0
                have HT1 := Lib.hid ht1
                clear hy0 hy1 hz1 hz2 hz3 hz4 hz5 g0 g1 g2 g3 g4 g5 ht0 ht1
                have m2 : ((r : Int) + 2).tmod 4 = (s2 : Int) := tm4 r 2 s2 hs2
                have m3 : ((r : Int) + 3).tmod 4 = (s3 : Int) := tm4 r 3 s3 hs3
                have HV := Lib.hid hv
                have HO := Lib.hid (hO.ext xd)
                have HR := Lib.hid (hR.ext xd)
                have HWD := Lib.hid hwd
                have HE0 := Lib.hid e0
                have HO0 := Lib.hid o0
                clear hO hR hv hxe hxe1 hxe2 hxe3 hye hs1 hs2 hs3 xd hwd e0 e1 e2 e3 o0 o1 o2 o3 k1 k2 k3
                go_wp2_with fail
                clear n1 w1' p1 t11 l11 a0 a1 ak ao fo hx0 hx1 hx2 hx3 hkb
                refine wp_region_ord 25 (fun W => W = wd) (by kernel_rfl) (by kernel_rfl) (by decide) (by kernel_rfl) HWD.out.symm ?_
                simp only [List.take_succ_cons, List.take_zero, List.drop_succ_cons, List.drop_zero]
                repeat (refine wpTxt_stay ?_ (fun K hK => ?_) rfl ?_; rotate_left; (simp only [Act.put, List.setIfInBounds_toArray, List.set_cons_zero, List.set_cons_succ] at hK; go_simp; exact hK); simp only [Act.put, List.setIfInBounds_toArray, List.set_cons_zero, List.set_cons_succ])
                refine wpTxt_stay ?_ (fun K hK => ?_) rfl ?_
                rotate_left
                · simp only [Act.put, List.setIfInBounds_toArray, List.set_cons_zero, List.set_cons_succ] at hK
                  go_simp
                  refine (HT0.out _).mono ?_
                  rintro e v ⟨rfl, rfl⟩
                  exact hK
                simp only [Act.put, List.setIfInBounds_toArray, List.set_cons_zero, List.set_cons_succ]
                repeat (refine wpTxt_stay ?_ (fun K hK => ?_) rfl ?_; rotate_left; (simp only [Act.put, List.setIfInBounds_toArray, List.set_cons_zero, List.set_cons_succ] at hK; go_simp; exact hK); simp only [Act.put, List.setIfInBounds_toArray, List.set_cons_zero, List.set_cons_succ])
                refine wpTxt_stay ?_ (fun K hK => ?_) rfl ?_
                rotate_left
                · simp only [Act.put, List.setIfInBounds_toArray, List.set_cons_zero, List.set_cons_succ] at hK
                  go_simp
                  refine (HT1.out _).mono ?_
                  rintro e v ⟨rfl, rfl⟩
                  exact hK
                simp only [Act.put, List.setIfInBounds_toArray, List.set_cons_zero, List.set_cons_succ]
                repeat (refine wpTxt_stay ?_ (fun K hK => ?_) rfl ?_; rotate_left; (simp only [Act.put, List.setIfInBounds_toArray, List.set_cons_zero, List.set_cons_succ] at hK; go_simp; exact hK); simp only [Act.put, List.setIfInBounds_toArray, List.set_cons_zero, List.set_cons_succ])
                refine wpTxt_nil ?_
                rintro W rfl
                go_wp2_with fail
                refine ⟨⟨r + 1, hlr, by go_num, HO.out.prt_set hld hlr HE0.out.symm (by rw [HE0.out, HV.out]), HR.out.far HGL.out _⟩, ?_⟩
                exact meas4 hlr
            · have e4 : r = 4 := by omega
              subst e4
              rw [prt_4] at hO
              have HO := Lib.hid hO
              have HR := Lib.hid hR
              clear hO hR
              go_wp2_with fail
              go_roundw
              case rel => exact ⟨d + 1, by omega, by go_num, HO.out, HR.out⟩
              case measure => simp [intOf]; omega
        · have e4 : d = 4 := by omega
          have i2 : ¬ (d : Int) < 4 := by omega
          rw [e4] at hO
          have HO := Lib.hid (hO.congr (f' := rnd f k last) (fun j hj => by unfold prt; rw [if_pos (by omega)]))
          have HR := Lib.hid hR
          clear hO hR e4
          go_wp2_with (first
            | refine wpList_load_arr rfl 22 (.tmp 12) rfl go rfl 22 .u8 16 (rnd f k last) _ HO.out Try.underlying22 size_bk ?_
            | (refine wpList_store_arr' rfl rfl 22 (.tmp 8) (.tmp 103) rfl (w.heap.size + 1 + 1 + 1) .u8 16 (rnd f k last) rfl rfl 22 _ HR.out.2.2.2.2.1 size_bk tabV_size ?_; intro w5 hA5 hG5))
          refine bodyPost_ret (v := .agg (tabV .u8 16 (rnd f k last))) ?_ rfl ⟨rfl, grown_new HR.out.2.2.2.2.2 hG5 (fun g hg => by simp at hg; omega)⟩
          exact results_cell_row rfl _ _ _ _ _ _ _ rfl hA5 Try.underlying22 rfl (by rw [tabV_size]; exact size_bk)
end Go.Proofs.Ytdmfajcbbolfiaa
