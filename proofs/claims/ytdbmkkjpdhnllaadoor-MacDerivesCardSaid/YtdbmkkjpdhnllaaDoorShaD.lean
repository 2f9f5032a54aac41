/-
  Package sha: the bytes of a part are added to a digest that has begun.
-/
import Derived.Test.YtdbmkkjpdhnllaaDoorShaC
import Derived.Test.YtdbmkkjpdhnllaaDoorShaN
import Derived.Laws.CopyOwn
import Derived.BigRegion
namespace Go.Proofs.YtdbmkkjpdhnllaaDoor
open Go.RowKit

/-! ## the blocks in X alone may have turned -/
structure Gr (X : Nat → Prop) (w w' : World) : Prop where
  os : w'.os = w.os
  tape : w'.tape = w.tape
  output : w'.output = w.output
  size : w.heap.size ≤ w'.heap.size
  block : ∀ i, i < w.heap.size → ¬ X i → w'.heap[i]? = w.heap[i]?
section
variable {X : Nat → Prop} {a b c w w' : World}
theorem Gr.refl (w : World) : Gr X w w := ⟨rfl, rfl, rfl, Nat.le_refl _, fun _ _ _ => rfl⟩
theorem Gr.tr (h : Gr X a b) (k : Gr X b c) : Gr X a c :=
  ⟨k.os.trans h.os, k.tape.trans h.tape, k.output.trans h.output, Nat.le_trans h.size k.size, fun i hi hx => (k.block i (Nat.lt_of_lt_of_le hi h.size) hx).trans (h.block i hi hx)⟩
theorem Gr.ofExt (h : Ext w w') : Gr X w w' := ⟨h.os, h.tape, h.output, h.size, fun i hi _ => h.block i hi⟩
theorem Gr.ofGrown {g : Nat} (h : w.grownBy w' (some g)) (hg : X g) : Gr X w w' :=
  ⟨h.os, h.tape, h.output, h.size, fun i hi hx => h.block i hi (by rintro e; injection e with e; subst e; exact hx hg)⟩
theorem Gr.toExt (h : Ext a b) (k : Gr X b c) (hX : ∀ g, X g → a.heap.size ≤ g) : Ext a c :=
  ⟨k.os.trans h.os, k.tape.trans h.tape, k.output.trans h.output, Nat.le_trans h.size k.size,
    fun i hi => (k.block i (Nat.lt_of_lt_of_le hi h.size) (fun hx => by have := hX i hx; omega)).trans (h.block i hi)⟩
theorem Gr.get (h : Gr X w w') {g : Nat} {o : Obj} (hg : w.heap[g]? = some o) (hx : ¬ X g) : w'.heap[g]? = some o := (h.block g (lt_of_some hg) hx).trans hg
theorem RB.gr {S : Nat → TypeId → Prop} {A : Option Addr} {l : List UInt8} (h : RB w S A l) (hb : Gr X w w') (hS : ∀ g t, S g t → ¬ X g) : RB w' S A l :=
  h.keep fun _ _ hh ⟨_, _, _, _, hs⟩ => hb.get hh (hS _ _ hs)
theorem Tab.gr (h : Tab w) (hb : Gr X w w') (hX : ¬ X 0) : Tab w' := by
  obtain ⟨cs, t, fr, hh, hc⟩ := h
  exact ⟨cs, t, fr, hb.get hh hX, hc⟩
end

/-- bytes are copied into an array of the call's own -/
theorem wpList_copy_arr {P : Program} {w : World} {ops : Array Oper} {rest : List Oper} {o : Oper} {a : Act} {Q : Exit → Act → World → Prop} (hgd : o.guard = none) (d s : Operand) (dT sT : TypeId)
    (ho : o.op = .call { callee := .builtin .copy, args := #[d, s], argTypes := #[dT, sT] }) (elem : TypeId) (hu : P.underlying dT = some (.slice elem)) (hsz : (P.info? elem).map (·.size) = some 1)
    (g off dLen dCap : Nat) (hd : a.eval d = .slice (some ⟨g, off, none⟩) dLen dCap) (A : Option Addr) (c : Nat) (l : List UInt8) (hs : a.eval s = .slice A l.length c)
    (t : TypeId) (n : Nat) (f : Nat → Nat) (hg : Arr w g t .u8 n f) (S : Nat → TypeId → Prop) (hr : RB w S A l) (hl : 0 < l.length) (cnt : Nat) (hcnt : cnt = min l.length dLen) (hfit : off + cnt ≤ n)
    (h : ∀ w', Arr w' g t .u8 n (fun i => if off ≤ i ∧ i < off + cnt then byt l (i - off) else f i) → w.grownBy w' (some g) → wpList P ops Q rest (a.put o.dst (.int .i64 cnt)) w') :
    wpList P ops Q (o :: rest) a w := by
  obtain ⟨g', off', cs', t', fr', rfl, hh', _, hc'⟩ := hr hl
  have hlen : ((l.take cnt).map u8).length = cnt := by rw [List.length_map, List.length_take]; omega
  have hcl : cnt ≤ l.length := by omega
  refine wpList_copy_own hgd d s dT sT ho elem hu hsz g off dLen dCap ⟨g', off', none⟩ l.length c hd hs (tabV .u8 n f) t hg ((l.take cnt).map u8) (by rw [hlen, hcnt]) (fun j v hj => ?_) (by rw [hlen, tabV_size]; exact hfit) (u8s_one _) ?_
  · rw [List.getElem?_map] at hj
    obtain ⟨b, hb, rfl⟩ := Option.map_eq_some_iff.1 hj
    rw [List.getElem?_take] at hb
    split at hb
    · rw [(addr_add _ _).2 rfl, cells_of hh']
      exact hc' j b hb
    · cases hb
  · have e : ((tabV .u8 n f).toList.take off ++ ((l.take cnt).map u8 ++ (tabV .u8 n f).toList.drop (off + ((l.take cnt).map u8).length))).toArray = tabV .u8 n (fun i => if off ≤ i ∧ i < off + cnt then byt l (i - off) else f i) := by
      have hts : (tabV .u8 n f).toList.length = n := by rw [Array.length_toList, tabV_size]
      apply tabV_ext
      · simp only [List.size_toArray, List.length_append, List.length_take, List.length_drop, hts, hlen]
        omega
      · intro i hi
        rw [List.getElem?_toArray, hlen]
        by_cases h1 : i < off
        · rw [List.getElem?_append_left (by rw [List.length_take, hts]; omega), List.getElem?_take, if_pos h1, Array.getElem?_toList, tabV_get hi, if_neg (by omega)]
        · rw [List.getElem?_append_right (by rw [List.length_take, hts]; omega), List.length_take, hts, Nat.min_eq_left (by omega)]
          by_cases h2 : i < off + cnt
          · have hil : i - off < l.length := by omega
            rw [List.getElem?_append_left (by rw [hlen]; omega), List.getElem?_map, List.getElem?_take, if_pos (by omega), if_pos ⟨by omega, h2⟩, List.getElem?_eq_getElem hil]
            simp only [Option.map_some, u8, byt]
            rw [List.getD_eq_getElem?_getD, List.getElem?_eq_getElem hil]
            rfl
          · rw [List.getElem?_append_right (by rw [hlen]; omega), hlen, List.getElem?_drop, show off + cnt + (i - off - cnt) = i by omega, Array.getElem?_toList, tabV_get hi, if_neg (by omega)]
    rw [e, hlen]
    exact h _ (setRow_heap w g _ _ t _ hg) (grown_setRow g _)

/-- a whole array is stored, at the end of a round -/
theorem wpList_store_arr' {P : Program} {w : World} {ops : Array Oper} {rest : List Oper} {o : Oper} {a : Act} {Q : Exit → Act → World → Prop} (hgd : o.guard = none) (hdst : o.dst = none) (ty : TypeId) (x y : Operand) (ho : o.op = .store ty x y)
    (g : Nat) (k : IntKind) (n : Nat) (f : Nat → Nat) (hx : a.eval x = .pointer (some ⟨g, 0, none⟩)) (hy : a.eval y = .agg (tabV k n f)) (t : TypeId) (old : Array Value) (hg : w.heap[g]? = some (.cells old t (0, 0)))
    (hi : (P.info? ty).map (·.size) = some n) (hold : old.size = n) (h : ∀ w', Arr w' g t k n f → w.grownBy w' (some g) → wpList P ops Q rest a w') : wpList P ops Q (o :: rest) a w :=
  wpList_store_arr hgd ty x y ho g k n f hx hy t old hg hi hold (fun w' h1 h2 => by rw [hdst]; exact h w' h1 h2)

/-! ## the variables of Sum -/
def Sh (w : World) (gb gn gs : Nat) (q : List UInt8) : Prop :=
  (∃ f, Arr w gb 41 .u8 64 f ∧ Part q f) ∧ w.heap[gn]? = some (.cells #[.int .i64 q.length] 3 (0, 0)) ∧ Arr w gs 49 .u32 8 (run kc st0 q (q.length / 64)).get
def X3 (gb gn gs : Nat) (g : Nat) : Prop := g = gb ∨ g = gn ∨ g = gs
theorem drop_drop_len (b : List UInt8) (k c : Nat) : (b.drop k).drop c = b.drop (k + c) := by rw [List.drop_drop]
theorem take_more (b : List UInt8) (k c : Nat) : b.take k ++ (b.drop k).take c = b.take (k + c) := by rw [List.take_add]

def lenOf : Value → Nat
  | .slice _ n _ => n
  | _ => 0

set_option maxRecDepth 100000 in
set_option maxHeartbeats 2000000 in
theorem add_c (gb gn gs : Nat) (hbn : gb ≠ gn) (hbs : gb ≠ gs) (hns : gn ≠ gs) (h0 : ¬ X3 gb gn gs 0) (q : List UInt8) (A : Option Addr) (c : Nat) (b : List UInt8) (S : Nat → TypeId → Prop) (hS : ∀ g t, S g t → ¬ X3 gb gn gs g) (w : World) (ht : Tab w)
    (hh : Sh w gb gn gs q) (hr : RB w S A b) (hc : b.length ≤ c) (hcm : c ≤ 9223372036854775807) (hlen : q.length + b.length ≤ 281474976710656) :
    Calls Tryd.prog 29 #[.slice A b.length c, .pointer (some ⟨gb, 0, none⟩), .pointer (some ⟨gn, 0, none⟩), .pointer (some ⟨gs, 0, none⟩)] w fun e w' => e = .returned (.tuple #[]) ∧ Sh w' gb gn gs (q ++ b) ∧ Gr (X3 gb gn gs) w w' := by
  have HH := Lib.hid hh
  have HR := Lib.hid hr
  have HT := Lib.hid ht
  have HS := Lib.hid hS
  have HC := Lib.hid hc
  have HL := Lib.hid hlen
  clear hh hr ht hS hlen hc
  go_enter Tryd.func29, Tryd.ntmps29
  go_wp2_with fail
  go_loopw [0] (fun v wr => ∃ (k : Nat) (A' : Option Addr) (c' : Nat), k ≤ b.length ∧ v = .slice A' (b.drop k).length c' ∧ RB wr S A' (b.drop k) ∧ (b.drop k).length ≤ c' ∧ c' ≤ 9223372036854775807 ∧ Sh wr gb gn gs (q ++ b.take k) ∧ Gr (X3 gb gn gs) w wr) (fun v _ => lenOf v)
  case atStart => exact ⟨0, A, c, by omega, rfl, HR.out, HC.out, hcm, by rw [List.take_zero, List.append_nil]; exact HH.out, Gr.refl _⟩
  case round =>
    obtain ⟨k, A', c', hk, rfl, hr, hc', hcm', hsh, hgr⟩ := hrel
    obtain ⟨p, hp⟩ : ∃ p, p = b.drop k := ⟨_, rfl⟩
    obtain ⟨m, hm⟩ : ∃ m, m = q ++ b.take k := ⟨_, rfl⟩
    have hpl : p.length = b.length - k := by rw [hp, List.length_drop]
    have hml : m.length = q.length + k := by rw [hm, List.length_append, List.length_take]; omega
    rw [← hp] at hr hc' ⊢
    rw [← hm] at hsh
    have HP := Lib.hid hp
    have HM := Lib.hid hm
    have hbd : m.length + p.length ≤ 281474976710656 := by have := HL.out; omega
    have HPL := Lib.hid hpl
    have HML := Lib.hid hml
    clear hp hm hpl hml
    by_cases hlt : 0 < p.length
    · obtain ⟨⟨f, hA, hPf⟩, hN, hSt⟩ := hsh
      have cn : wr.cell? ⟨gn, 0, none⟩ = some (.int .i64 m.length) := cells_of hN 0
      have fn : wr.frozen? ⟨gn, 0, none⟩ = false := free_of hN 0
      have HA := Lib.hid hA
      have HPf := Lib.hid hPf
      have HN := Lib.hid hN
      have HSt := Lib.hid hSt
      have HR1 := Lib.hid hr
      have HG := Lib.hid hgr
      clear hA hPf hN hSt hr hgr
      have hfl := fits_le m p
      have hfp := fits_pos m hlt
      obtain ⟨cnt, hcn⟩ : ∃ cnt, cnt = fits m p := ⟨_, rfl⟩
      rw [← hcn] at hfl hfp
      obtain ⟨hf1, hf2⟩ := hfl
      have HCN := Lib.hid hcn
      have hmod : m.length % 64 < 64 := Nat.mod_lt _ (by decide)
      have hsl := fun W => run_slice_arr (P := Tryd.prog) (t := 41) Tryd.underlying41 size_u8 gb (m.length % 64) hmod ((m.length : Int) % 64) (by omega) W
      have hcq : cnt = min p.length (64 - m.length % 64) := hcn
      have HCQ := Lib.hid hcq
      clear hcn hcq
      go_wp2_with (refine wpList_copy_arr rfl (.tmp 11) (.tmp 12) 22 22 rfl 5 Tryd.underlying22 size_u8 gb (m.length % 64) (64 - m.length % 64) (64 - m.length % 64) rfl A' c' p rfl 41 64 f HA.out S HR1.out hlt cnt HCQ.out (by omega) ?_; intro w2 hA2 hG2)
      have hA3 : Arr w2 gb 41 .u8 64 (fill m p f) := hA2.congr (fun i _ => by rw [fill, ← HCN.out])
      have hN2 := grown_get hG2 HN.out (by simpa using hbn)
      have cn2 : w2.cell? ⟨gn, 0, none⟩ = some (.int .i64 m.length) := cells_of hN2 0
      have fn2 : w2.frozen? ⟨gn, 0, none⟩ = false := free_of hN2 0
      have hSt2 : Arr w2 gs 49 .u32 8 (run kc st0 m (m.length / 64)).get := grown_get hG2 HSt.out (by simpa using hbs)
      have hg2 : Gr (X3 gb gn gs) wr w2 := Gr.ofGrown hG2 (.inl rfl)
      have hr2 := HR1.out.gr hg2 HS.out
      have HA3 := Lib.hid hA3
      have HN2 := Lib.hid hN2
      have HSt2 := Lib.hid hSt2
      have HR2 := Lib.hid hr2
      have HG2 := Lib.hid (HG.out.tr hg2)
      have n1 : (cnt : Int) ≤ (p.length : Int) := by omega
      have n2 : (p.length : Int) ≤ (c' : Int) := by omega
      have n3 : (cnt : Int) ≤ (c' : Int) := by omega
      clear hA2 hG2 hA3 hN2 hSt2 hg2 hr2 hsl cn fn HA HN HSt HR1 HG
      go_region
      obtain ⟨A3, hA3⟩ : ∃ A3, A3 = (if c' = cnt then A' else Option.map (fun x => x.add cnt) A') := ⟨_, rfl⟩
      have hd := HR2.out.drop (k := cnt) hc'
      have hd1 : RB w2 S A3 (p.drop cnt) := by rw [hA3]; exact hd
      obtain ⟨W, hW⟩ : ∃ W, W = (w2.setCell ⟨gn, 0, none⟩ (.int .i64 ((m.length : Int) + (cnt : Int)))).drew := ⟨_, rfl⟩
      rw [← hA3, ← hW]
      have hg3 : w2.grownBy W (some gn) := by rw [hW]; exact grown_tr (grown_set _ rfl _) ((Ext.drew _).grown _)
      have hN3 : W.heap[gn]? = some (.cells #[.int .i64 ((m.length + cnt : Nat) : Int)] 3 (0, 0)) := by
        rw [hW]
        have h := set_of HN2.out 0 (.int .i64 ((m.length : Int) + (cnt : Int)))
        rw [Int.natCast_add]
        exact h
      have hA4 : Arr W gb 41 .u8 64 (fill m p f) := grown_get hg3 HA3.out (by simpa using (Ne.symm hbn))
      have hS4 : Arr W gs 49 .u32 8 (run kc st0 m (m.length / 64)).get := grown_get hg3 HSt2.out (by simpa using hns)
      have hG4 : Gr (X3 gb gn gs) w W := HG2.out.tr (Gr.ofGrown hg3 (.inr (.inl rfl)))
      have hR4 := hd1.gr (Gr.ofGrown (X := X3 gb gn gs) hg3 (.inr (.inl rfl))) HS.out
      have c4 : W.cell? ⟨gn, 0, none⟩ = some (.int .i64 ((m.length : Int) + (cnt : Int))) := by rw [cells_of hN3 0, Int.natCast_add]; rfl
      have HN4 := Lib.hid hN3
      have HA4 := Lib.hid hA4
      have HS4 := Lib.hid hS4
      have HG4 := Lib.hid hG4
      have HR4 := Lib.hid hR4
      clear hA3 hd hd1 hW hg3 hN3 hA4 hS4 hG4 hR4 cn2 fn2 HR2 HA3 HN2 HSt2 HG2
      have hpd : (p.drop cnt).length = p.length - cnt := List.length_drop
      have HPD := Lib.hid hpd
      clear hpd
      by_cases h64 : (m.length + cnt) % 64 = 0
      · have t1 := beq_t (a := ((m.length : Int) + (cnt : Int)) % 64) (b := 0) (by omega)
        obtain ⟨hPn, hrun⟩ := part_full HPf.out hlt (by rw [← HCN.out]; exact h64)
        have HPN := Lib.hid hPn
        have HRUN := Lib.hid (hrun kc st0)
        have hok : (run kc st0 m (m.length / 64)).ok := run_ok _ st0_ok _ _
        have hft := fill_lt p HPf.out
        obtain ⟨s, hs⟩ : ∃ s, s = run kc st0 m (m.length / 64) := ⟨_, rfl⟩
        have HSE := Lib.hid hs
        have hT4 : Tab W := HT.out.gr HG4.out h0
        have hS4 := HS4.out
        rw [← hs] at hok hS4
        have hcall := fun W' (hW' : Tab W') => block_c s hok (fill m p f) hft W' hW'
        have HCALL := Lib.hid hcall
        have HT4 := Lib.hid hT4
        have HS5 := Lib.hid hS4
        clear hs hT4 hok hft hcall hPn hrun hS4 HS4 HPf h64
        go_wp2_with (first | (refine wpList_load_arr rfl 49 (.tmp 3) rfl gs rfl 49 .u32 8 s.get _ HS5.out Tryd.underlying49 size_st ?_) | (refine wpList_load_arr rfl 41 (.tmp 1) rfl gb rfl 41 .u8 64 (fill m p f) _ HA4.out Tryd.underlying41 size_blk ?_))
        refine (HCALL.out _ HT4.out).mono ?_
        rintro e W5 ⟨rfl, hx5⟩
        have HX5 := Lib.hid hx5
        have hs5 := HS5.out.ext hx5
        clear hx5
        go_wp2_with (refine wpList_store_arr' rfl rfl 49 (.tmp 3) (.tmp 25) rfl gs .u32 8 (blk kc s (fill m p f)).get rfl rfl 49 _ hs5 size_st tabV_size ?_; intro W6 hA6 hG6)
        have ep : p.drop cnt = b.drop (k + cnt) := by rw [HP.out, drop_drop_len]
        have em : m ++ p.take cnt = q ++ b.take (k + cnt) := by rw [HM.out, HP.out, List.append_assoc, take_more]
        have e1 : m.length + cnt = (q ++ b.take (k + cnt)).length := by rw [← em, List.length_append, List.length_take]; omega
        have g6 : Gr (X3 gb gn gs) W W6 := (Gr.ofExt HX5.out).tr (Gr.ofGrown hG6 (.inr (.inr rfl)))
        have hsh : Sh W6 gb gn gs (q ++ b.take (k + cnt)) := by
          refine ⟨⟨fill m p f, grown_get hG6 (HX5.out.get HA4.out) (by simpa using (Ne.symm hbs)), ?_⟩, ?_, ?_⟩
          · rw [← em, HCN.out]; exact HPN.out
          · rw [← e1]; exact grown_get hG6 (HX5.out.get HN4.out) (by simpa using (Ne.symm hns))
          · rw [← em, HCN.out, HRUN.out, ← HSE.out]; exact hA6
        have hrb := HR4.out.gr g6 HS.out
        rw [ep] at hrb
        have hle : (b.drop (k + cnt)).length = p.length - cnt := by rw [← ep, HPD.out]
        go_roundw
        case rel => exact ⟨k + cnt, A3, c' - cnt, by have := HPL.out; omega, by rw [hle], hrb, by omega, by omega, hsh, HG4.out.tr g6⟩
        case measure => simp [lenOf]; omega
      · have t1 := beq_f (a := ((m.length : Int) + (cnt : Int)) % 64) (b := 0) (by omega)
        obtain ⟨hPn, hrun⟩ := part_open HPf.out (by rw [← HCN.out]; exact h64)
        have HPN := Lib.hid hPn
        have HRUN := Lib.hid (hrun kc st0)
        clear hPn hrun h64 HPf
        go_wp2_with fail
        have ep : p.drop cnt = b.drop (k + cnt) := by rw [HP.out, drop_drop_len]
        have em : m ++ p.take cnt = q ++ b.take (k + cnt) := by rw [HM.out, HP.out, List.append_assoc, take_more]
        have e1 : m.length + cnt = (q ++ b.take (k + cnt)).length := by rw [← em, List.length_append, List.length_take]; omega
        have hsh : Sh W gb gn gs (q ++ b.take (k + cnt)) := by
          refine ⟨⟨fill m p f, HA4.out, ?_⟩, ?_, ?_⟩
          · rw [← em, HCN.out]; exact HPN.out
          · rw [← e1]; exact HN4.out
          · rw [← em, HCN.out, HRUN.out]; exact HS4.out
        have hrb := HR4.out
        rw [ep] at hrb
        have hle : (b.drop (k + cnt)).length = p.length - cnt := by rw [← ep, HPD.out]
        go_roundw
        case rel => exact ⟨k + cnt, A3, c' - cnt, by have := HPL.out; omega, by rw [hle], hrb, by omega, by omega, hsh, HG4.out⟩
        case measure => simp [lenOf]; omega
    · have hz : p.length = 0 := by omega
      have hp0 : p = [] := List.eq_nil_of_length_eq_zero hz
      have ek : b.length ≤ k := by have := HPL.out; omega
      have em : m = q ++ b := by rw [HM.out, List.take_of_length_le ek]
      rw [em] at hsh
      have HSH := Lib.hid hsh
      have HG := Lib.hid hgr
      clear hz hp0 ek em hsh hgr hr
      go_wp2_with fail
      go_end0
      exact ⟨rfl, HSH.out, HG.out⟩
end Go.Proofs.YtdbmkkjpdhnllaaDoor
