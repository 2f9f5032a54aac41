/-
  Names read from texts, by the reference.
-/
import Derived.Test.YtgbdckiojjmncaaNamF
namespace Go.Proofs.Ytgbdckiojjmncaa
open Go.RowKit
set_option linter.unusedSimpArgs false
set_option linter.unnecessarySimpa false

/-- 'append(out, s)' of a string in a region that draws its order -/
theorem step_append_str1 {P : Program} (w : World) {ops : Array Oper} {o : Oper} {a : Act} {K : Act → World → Prop} {Q : Exit → Act → World → Prop} {G : Prop} (hgd : o.guard = none) (s x : Operand) (t : TypeId)
    (ho : o.op = .call { callee := .builtin .append, args := #[s, x], argTypes := #[t, t] })
    (base : Nat) (E : TypeId) (i : TypeInfo) (ht : P.underlying t = some (.slice E)) (hi : P.info? E = some i) (hz : i.zero = some (.string ByteArray.empty)) (hsz : i.size = 1) (hy : i.bytes = 16)
    (A : Option Addr) (c : Nat) (ss : List ByteArray) (n : Nat) (hs : a.eval s = .slice A n c) (hn : ss.length = n) (hown : OwnS w E base A c ss) (g : Nat) (v : ByteArray) (hx : a.eval x = .slice (some ⟨g, 0, none⟩) 1 1) (hc : w.cell? ⟨g, 0, none⟩ = some (.string v))
    (hlen : n + 1 ≤ 1000000000) (hbase : base ≤ w.heap.size)
    (h : ∀ A' c' w', OwnS w' E base A' c' (ss ++ [v]) → w.grownBy w' (Value.slice A n c).ownBlock → K (a.put o.dst (.slice A' (n + 1) c')) w') :
    if Region.wanted o (yielded ops a.tmps) = true then Oper.wp P o a w K Q else G := by
  subst hn
  obtain ⟨v', w', hrun, h2, h3, _, _⟩ := run_append_own_at (P := P) w base t o.type E i (.string ByteArray.empty) 1 16 ht hi hz hsz hy rfl (by omega) (.slice A ss.length c) ss.length (ss.map Value.string) hown ⟨g, 0, none⟩ 1 1 [.string v] rfl
    (fun j u hj => by
      match j, hj with
      | 0, hj =>
        simp at hj
        subst hj
        exact hc) (fun u hu => by simp at hu; subst hu; rfl) (by unfold maxLen; omega) (by omega) hbase
  have h' : w'.ownsRow base E 1 v' (ss ++ [v]).length ((ss ++ [v]).map Value.string) := by rw [List.length_append, List.map_append]; exact h2
  have shape : ∃ A' c', v' = .slice A' (ss ++ [v]).length c' := by
    rcases h'.2 with ⟨rfl, hn⟩ | ⟨g, cap, cs, rfl, _⟩
    · exact ⟨none, 0, by rw [hn]⟩
    · exact ⟨_, _, rfl⟩
  obtain ⟨A', c', rfl⟩ := shape
  rw [if_pos (by simp [Region.wanted, hgd])]
  unfold Oper.wp execOp
  simp only [ho, resolve, invoke, builtin, Sem.run_bind, Sem.run_pure, Result.andThen_ok, List.map_toArray, List.map_cons, List.map_nil, hs, hx, hrun]
  have := h A' c' w' h' h3
  rw [List.length_append]
  exact this
/-- the same in a region in the text's order -/
theorem wpList_append_str1 {P : Program} (w : World) {ops : Array Oper} {rest : List Oper} {o : Oper} {a : Act} {Q : Exit → Act → World → Prop} (hgd : o.guard = none) (s x : Operand) (t : TypeId)
    (ho : o.op = .call { callee := .builtin .append, args := #[s, x], argTypes := #[t, t] })
    (base : Nat) (E : TypeId) (i : TypeInfo) (ht : P.underlying t = some (.slice E)) (hi : P.info? E = some i) (hz : i.zero = some (.string ByteArray.empty)) (hsz : i.size = 1) (hy : i.bytes = 16)
    (A : Option Addr) (c : Nat) (ss : List ByteArray) (n : Nat) (hs : a.eval s = .slice A n c) (hn : ss.length = n) (hown : OwnS w E base A c ss) (g : Nat) (v : ByteArray) (hx : a.eval x = .slice (some ⟨g, 0, none⟩) 1 1) (hc : w.cell? ⟨g, 0, none⟩ = some (.string v))
    (hlen : n + 1 ≤ 1000000000) (hbase : base ≤ w.heap.size)
    (h : ∀ A' c' w', OwnS w' E base A' c' (ss ++ [v]) → w.grownBy w' (Value.slice A n c).ownBlock → wpList P ops Q rest (a.put o.dst (.slice A' (n + 1) c')) w') : wpList P ops Q (o :: rest) a w :=
  wpList_plain hgd fun K hK => by
    have := step_append_str1 (P := P) (ops := ops) (K := K) (Q := Q) (G := False) w hgd s x t ho base E i ht hi hz hsz hy A c ss n hs hn hown g v hx hc hlen hbase (fun A' c' w' h1 h2 => hK _ _ (h A' c' w' h1 h2))
    rw [if_pos (by simp [Region.wanted, hgd])] at this
    exact this

theorem spl_d92 {l : List UInt8} {k : Nat} {sg : UInt8} (h : k + 1 < l.length) (hc : l[k] = 92) : spl sg (l.drop k) = hd [92, l[k + 1]] (spl sg (l.drop (k + 2))) := by
  rw [List.drop_eq_getElem_cons (by omega), hc, List.drop_eq_getElem_cons h, spl_b]
theorem spl_d0 {l : List UInt8} {k : Nat} {sg : UInt8} (h : k + 1 = l.length) (hc : l[k] = 92) : spl sg (l.drop k) = [[92]] := by
  rw [List.drop_eq_getElem_cons (by omega), hc, List.drop_of_length_le (by omega), spl_b0]
theorem spl_dsg {l : List UInt8} {k : Nat} {sg : UInt8} (hs : sg ≠ 92) (h : k < l.length) (hc : l[k] = sg) : spl sg (l.drop k) = [] :: spl sg (l.drop (k + 1)) := by
  rw [List.drop_eq_getElem_cons h, hc, spl_sign sg hs]
theorem spl_dpl {l : List UInt8} {k : Nat} {sg : UInt8} (h : k < l.length) (h1 : l[k] ≠ 92) (h2 : l[k] ≠ sg) : spl sg (l.drop k) = hd [l[k]] (spl sg (l.drop (k + 1))) := by
  rw [List.drop_eq_getElem_cons h, spl_other sg _ h1 h2]
/-- the piece under way -/
def pc (l : List UInt8) (fr k : Nat) : List UInt8 := (l.drop fr).take (k - fr)
theorem pc_self (l : List UInt8) (k : Nat) : pc l k k = [] := by simp [pc]
theorem pc_one {l : List UInt8} {fr k : Nat} (h : k < l.length) (hf : fr ≤ k) : pc l fr k ++ [l[k]] = pc l fr (k + 1) := by
  unfold pc
  rw [show k + 1 - fr = (k - fr) + 1 by omega, List.take_succ_eq_append_getElem (by rw [List.length_drop]; omega), List.getElem_drop]
  congr 3
  omega
theorem pc_end {l : List UInt8} {fr k : Nat} (h : l.length ≤ k) : pc l fr k = l.drop fr := by
  unfold pc
  exact List.take_of_length_le (by rw [List.length_drop]; omega)

set_option maxRecDepth 100000 in
set_option maxHeartbeats 4000000 in
theorem rsplit_c (s : ByteArray) (sg : UInt8) (hsg : sg ≠ 92) (w : World) (hs : s.size ≤ 1000000) : Calls Try.prog 38 #[.string s, .int .u8 (sg.toNat : Int)] w fun e w' =>
    ∃ (A : Option Addr) (c : Nat) (ss : List ByteArray), e = .returned (.slice A ss.length c) ∧ OwnS w' 9 w.heap.size A c ss ∧ bls ss = spl sg (bl s) ∧ Ext w w' := by
  obtain ⟨i0, hi0, hz0, hz1, hz2⟩ := info_parts' info_str
  go_enter Try.func38, Try.ntmps38
  go_wp2_with fail
  go_loopw [5, 6, 7] (fun v fr i wr => ∃ (k f : Nat) (A : Option Addr) (d : Nat) (ws : List ByteArray), k ≤ s.size + 1 ∧ f ≤ k ∧ f ≤ s.size ∧ i = .int .i64 k ∧ fr = .int .i64 f ∧ v = .slice A ws.length d ∧ ws.length ≤ k ∧ OwnS wr 9 w.heap.size A d ws ∧ Ext w wr ∧ spl sg (bl s) = bls ws ++ hd (pc (bl s) f k) (spl sg ((bl s).drop k))) (fun _ _ i _ => s.size + 1 - (intOf i).toNat)
  case atStart => exact ⟨0, 0, none, 0, [], by omega, by omega, by omega, rfl, rfl, rfl, by simp, OwnS.nil _ _ _, Ext.refl _, by rw [pc_self, hd_nil (spl_ne _ _)]; rfl⟩
  case round =>
    obtain ⟨k, f, A, d, ws, hk, hfk, hfs, rfl, rfl, rfl, hwk, hor, hx, hsp⟩ := hrel
    have HX := Lib.hid hx
    have HSP := Lib.hid hsp
    have HOR := Lib.hid hor
    have hsz := hx.size
    clear hx hsp hor
    by_cases hlt : k < s.size
    · have hp' : k < (bl s).length := by rw [bl_len]; exact hlt
      have hg := bl_get hlt
      by_cases q1 : s[k]'hlt = 92
      · have t1 := beq_t (a := ((s[k]'hlt).toNat : Int)) (b := 92) (by rw [q1]; rfl)
        by_cases h1 : k + 1 < s.size
        · have hp2 : k + 1 < (bl s).length := by rw [bl_len]; exact h1
          have hst := spl_d92 (sg := sg) hp2 (by rw [hg, q1])
          have hpc : pc (bl s) f k ++ [92, (bl s)[k + 1]] = pc (bl s) f (k + 2) := by
            have e1 := pc_one hp' hfk
            have e2 := pc_one (fr := f) hp2 (by omega)
            rw [hg, q1] at e1
            rw [← e2, ← e1]
            simp
          have hn : spl sg (bl s) = bls ws ++ hd (pc (bl s) f (k + 2)) (spl sg ((bl s).drop (k + 2))) := by rw [HSP.out, hst, hd_hd, hpc]
          have HN := Lib.hid hn
          clear hst hpc hn hg q1
          go_wp2_with fail
          go_roundw
          case rel => exact ⟨k + 2, f, A, d, ws, by omega, by omega, by omega, by go_num, rfl, rfl, by omega, HOR.out, HX.out, HN.out⟩
          case measure => simp [intOf]; omega
        · have hst := spl_d0 (sg := sg) (l := bl s) (k := k) (by rw [bl_len]; omega) (by rw [hg, q1])
          have hpc : pc (bl s) f k ++ [92] = pc (bl s) f (k + 2) := by
            have e1 := pc_one hp' hfk
            rw [hg, q1] at e1
            rw [e1, pc_end (by rw [bl_len]; omega), pc_end (by rw [bl_len]; omega)]
          have hn : spl sg (bl s) = bls ws ++ hd (pc (bl s) f (k + 2)) (spl sg ((bl s).drop (k + 2))) := by
            rw [HSP.out, hst, ← hpc, List.drop_of_length_le (by rw [bl_len]; omega), spl_nil]
            simp [hd]
          have HN := Lib.hid hn
          clear hst hpc hn hg q1
          go_wp2_with fail
          go_roundw
          case rel => exact ⟨k + 2, f, A, d, ws, by omega, by omega, by omega, by go_num, rfl, rfl, by omega, HOR.out, HX.out, HN.out⟩
          case measure => simp [intOf]; omega
      · have t1 := beq_f (a := ((s[k]'hlt).toNat : Int)) (b := 92) (u8_ne q1)
        by_cases q2 : s[k]'hlt = sg
        · have t2 := beq_t (a := ((s[k]'hlt).toNat : Int)) (b := (sg.toNat : Int)) (by rw [q2])
          have hst := spl_dsg hsg hp' (by rw [hg]; exact q2)
          have hcut : bl (s.extract f k) = pc (bl s) f k := by rw [bl_ex]; rfl
          have hn : spl sg (bl s) = bls (ws ++ [s.extract f k]) ++ hd (pc (bl s) (k + 1) (k + 1)) (spl sg ((bl s).drop (k + 1))) := by
            rw [HSP.out, hst, pc_self, hd_nil (spl_ne _ _), bls_snoc, hcut]
            simp [hd]
          have HN := Lib.hid hn
          obtain ⟨x, hx⟩ : ∃ x, s.extract f k = x := ⟨_, rfl⟩
          rw [hx] at HN
          have hor1 := HOR.out.ext (Ext.alloc wr (.cells #[.string x] 9))
          have HOR1 := Lib.hid hor1
          clear hst hcut hn hor1 hg q1 q2
          go_wp2_with (at_builtin; refine wpList_append_str1 _ rfl _ _ 22 rfl w.heap.size 9 i0 Try.underlying22 hi0 hz0 hz1 hz2 A d ws ws.length rfl rfl HOR1.out wr.heap.size x rfl (cells_of (new_of _ _) 0) (by omega) (by simp; omega) ?_
                       intro A2 c2 w2 ho2 hgr2)
          have hx2 : Ext w w2 := grown_new (HX.out.tr (Ext.alloc _ _)) hgr2 HOR1.out.ge
          go_roundw
          case rel => exact ⟨k + 1, k + 1, A2, c2, ws ++ [x], by omega, by omega, by omega, by go_num, by go_num, by simp, by simp; omega, ho2, hx2, HN.out⟩
          case measure => simp [intOf]; omega
        · have t2 := beq_f (a := ((s[k]'hlt).toNat : Int)) (b := (sg.toNat : Int)) (u8_ne q2)
          have hst := spl_dpl hp' (by rw [hg]; exact q1) (by rw [hg]; exact q2)
          have hn : spl sg (bl s) = bls ws ++ hd (pc (bl s) f (k + 1)) (spl sg ((bl s).drop (k + 1))) := by rw [HSP.out, hst, hd_hd, pc_one hp' hfk]
          have HN := Lib.hid hn
          clear hst hn hg q1 q2
          go_wp2_with fail
          go_roundw
          case rel => exact ⟨k + 1, f, A, d, ws, by omega, by omega, by omega, by go_num, rfl, rfl, by omega, HOR.out, HX.out, HN.out⟩
          case measure => simp [intOf]; omega
    · have hn : bls (ws ++ [s.extract f s.size]) = spl sg (bl s) := by
        rw [HSP.out, List.drop_of_length_le (by rw [bl_len]; omega), spl_nil, pc_end (by rw [bl_len]; omega), bls_snoc, drop_all]
        simp [hd]
      have HN := Lib.hid hn
      obtain ⟨x, hx⟩ : ∃ x, s.extract f s.size = x := ⟨_, rfl⟩
      rw [hx] at HN
      have hor1 := HOR.out.ext (Ext.alloc wr (.cells #[.string x] 9))
      have HOR1 := Lib.hid hor1
      clear hn hor1
      go_wp2_with (at_builtin; refine wpList_append_str1 _ rfl _ _ 22 rfl w.heap.size 9 i0 Try.underlying22 hi0 hz0 hz1 hz2 A d ws ws.length rfl rfl HOR1.out wr.heap.size x rfl (cells_of (new_of _ _) 0) (by omega) (by simp; omega) ?_
                   intro A2 c2 w2 ho2 hgr2)
      have hx2 : Ext w w2 := grown_new (HX.out.tr (Ext.alloc _ _)) hgr2 HOR1.out.ge
      go_ret
      exact ⟨A2, c2, ws ++ [x], by simp, ho2, HN.out, hx2⟩

theorem hd_mem {x p : List UInt8} {ls : List (List UInt8)} (h : p ∈ hd x ls) : p ∈ ls ∨ ∃ q, p = x ++ q ∧ (q ∈ ls ∨ q = []) := by
  cases ls with
  | nil =>
    simp [hd] at h
    exact .inr ⟨[], by simp [h], .inr rfl⟩
  | cons q qs =>
    simp only [hd, List.mem_cons] at h
    rcases h with h | h
    · exact .inr ⟨q, h, .inl (by simp)⟩
    · exact .inl (by simp [h])
theorem spl_len (sg : UInt8) : ∀ (n : Nat) (l : List UInt8), l.length ≤ n → (∀ p ∈ spl sg l, p.length ≤ l.length) ∧ (spl sg l).length ≤ l.length + 1 := by
  intro n
  induction n with
  | zero =>
    intro l hl
    obtain rfl := List.eq_nil_of_length_eq_zero (Nat.le_zero.1 hl)
    rw [spl_nil]
    simp
  | succ n ih =>
    have hdl : ∀ (x : List UInt8) (ls : List (List UInt8)), ls ≠ [] → (hd x ls).length = ls.length := fun x ls h => by
      cases ls with
      | nil => exact absurd rfl h
      | cons p ps => rfl
    have step : ∀ (x l : List UInt8), l.length ≤ n → (∀ p ∈ hd x (spl sg l), p.length ≤ x.length + l.length) ∧ (hd x (spl sg l)).length ≤ l.length + 1 := by
      intro x l hl
      obtain ⟨h1, h2⟩ := ih l hl
      refine ⟨fun p hp => ?_, by rw [hdl _ _ (spl_ne _ _)]; exact h2⟩
      rcases hd_mem hp with h | ⟨q, rfl, h | h⟩
      · have := h1 p h; omega
      · have := h1 q h; rw [List.length_append]; omega
      · subst h; simp
    intro l hl
    match l, hl with
    | [], _ => rw [spl_nil]; simp
    | c :: l, hl =>
      rw [List.length_cons] at hl ⊢
      by_cases hc : c = 92
      · subst hc
        match l, hl with
        | [], _ => rw [spl_b0]; simp
        | d :: l', hl =>
          rw [List.length_cons] at hl ⊢
          rw [spl_b]
          obtain ⟨h1, h2⟩ := step [92, d] l' (by omega)
          refine ⟨fun p hp => ?_, by omega⟩
          have := h1 p hp
          simp at this
          omega
      · by_cases hs : c = sg
        · subst hs
          rw [spl_sign c hc]
          obtain ⟨h1, h2⟩ := ih l (by omega)
          refine ⟨fun p hp => ?_, by rw [List.length_cons]; omega⟩
          rcases List.mem_cons.1 hp with rfl | h
          · simp
          · have := h1 p h; omega
        · rw [spl_other sg c hc hs]
          obtain ⟨h1, h2⟩ := step [c] l (by omega)
          refine ⟨fun p hp => ?_, by omega⟩
          have := h1 p hp
          simp at this
          omega
theorem pln_len : ∀ (n : Nat) (l : List UInt8), l.length ≤ n → (pln l).length ≤ l.length := by
  intro n
  induction n with
  | zero =>
    intro l hl
    obtain rfl := List.eq_nil_of_length_eq_zero (Nat.le_zero.1 hl)
    rw [pln_nil]
    simp
  | succ n ih =>
    intro l hl
    match l, hl with
    | [], _ => rw [pln_nil]; simp
    | c :: l, hl =>
      rw [List.length_cons] at hl
      by_cases hc : c = 92
      · subst hc
        match l, hl with
        | [], _ => rw [pln_b0]; simp
        | d :: l', hl =>
          rw [List.length_cons] at hl
          rw [pln_b]
          have := ih l' (by omega)
          simp only [List.length_cons]
          omega
      · rw [pln_pl hc]
        have := ih l (by omega)
        simp only [List.length_cons]
        omega
/-- below a, block g alone has turned -/
theorem grown_more {a b c : World} {g : Nat} {row : Option Nat} (h : a.grownBy b (some g)) (k : b.grownBy c row) (hr : ∀ q, row = some q → a.heap.size ≤ q ∨ q = g) : a.grownBy c (some g) :=
  ⟨k.os.trans h.os, k.tape.trans h.tape, k.output.trans h.output, Nat.le_trans h.size k.size, fun i hi hne => (k.block i (Nat.lt_of_lt_of_le hi h.size) (fun e => by
    rcases hr i e.symm with h' | h'
    · omega
    · exact hne (by rw [h']))).trans (h.block i hi hne)⟩

set_option maxRecDepth 100000 in
set_option maxHeartbeats 4000000 in
theorem rparse_c (s : ByteArray) (w : World) (hs : s.size ≤ 100000) : Calls Try.prog 21 #[.string s] w fun e w' => ∃ v, e = .returned (.tuple #[v, .bool (rprs (bl s)).isSome]) ∧ NmR w' v (rprs (bl s)) ∧ Ext w w' := by
  obtain ⟨i0, hi0, hz0, hz1, hz2⟩ := info_parts' info_str
  obtain ⟨hsl1, hsl2⟩ := spl_len 64 _ (bl s) (Nat.le_refl _)
  rw [bl_len] at hsl1 hsl2
  have HS1 := Lib.hid hsl1
  clear hsl1
  go_enter Try.func21, Try.ntmps21
  go_wp2_with fail
  refine (rsplit_c s 64 (by decide) _ (by omega)).mono ?_
  rintro e w1 ⟨A, c, ss, rfl, ho1, hb1, hx1⟩
  have hd0 := new_of w (.cells #[.string ⟨#[]⟩, .slice none 0 0] 24)
  have hd1 := hx1.get hd0
  have z0 : w1.cell? ⟨w.heap.size, 0, none⟩ = some (.string ⟨#[]⟩) := cells_of hd1 0
  have z1 : w1.cell? ⟨w.heap.size, 1, none⟩ = some (.slice none 0 0) := cells_of hd1 1
  have y0 : w1.frozen? ⟨w.heap.size, 0, none⟩ = false := free_of hd1 0
  have y1 : w1.frozen? ⟨w.heap.size, 1, none⟩ = false := free_of hd1 1
  have HD1 := Lib.hid hd1
  have HX1 := Lib.hid ((Ext.alloc _ _).tr hx1)
  have HO1 := Lib.hid ho1
  have HB1 := Lib.hid hb1
  have hln : ss.length ≤ s.size + 1 := by rw [← bls_len, hb1]; exact hsl2
  clear hd0 hd1 hx1 ho1 hb1 hsl2
  by_cases h2 : ss.length = 2
  · have t2 := bne_f (a := (ss.length : Int)) (b := 2) (by omega)
    obtain ⟨sa, sb, rfl⟩ : ∃ sa sb, ss = [sa, sb] := by
      match ss, h2 with
      | [a, b], _ => exact ⟨a, b, rfl⟩
    obtain ⟨g, off, rfl, hca⟩ := HO1.out.sr.cell (k := 0) (by simp)
    obtain ⟨g', off', hA, hcb⟩ := HO1.out.sr.cell (k := 1) (by simp)
    injection hA with hA
    injection hA with hA1 hA2
    subst hA1 hA2
    rw [Nat.add_zero] at hca
    simp only [List.getElem_cons_zero, List.getElem_cons_succ] at hca hcb
    have hsa : sa.size ≤ s.size := by rw [← bl_len sa]; exact HS1.out _ (by rw [← HB1.out]; simp [bls])
    have hsb : sb.size ≤ s.size := by rw [← bl_len sb]; exact HS1.out _ (by rw [← HB1.out]; simp [bls])
    clear h2
    go_wp2_with fail
    refine (rplain_c sb w1 (by omega)).mono ?_
    rintro e w1' ⟨r, rfl, hr, rfl⟩
    have hrs : r.size ≤ s.size := by
      rw [← bl_len, hr]
      have := pln_len _ (bl sb) (Nat.le_refl _)
      rw [bl_len] at this
      omega
    have HR := Lib.hid hr
    clear hr
    have hca' : ∀ o, (w1.alloc o).cell? ⟨g, off, none⟩ = some (.string sa) := fun o => by rw [World.cell?_alloc_some _ _ _ (by rw [hca]; rfl)]; exact hca
    go_wp2_with fail
    refine (rsplit_c sa 47 (by decide) _ (by omega)).mono ?_
    rintro e w3 ⟨P, pcap, ps, rfl, ho3, hb3, hx3⟩
    obtain ⟨hpl1, hpl2⟩ := spl_len 47 _ (bl sa) (Nat.le_refl _)
    rw [← hb3, bl_len] at hpl1 hpl2
    rw [bls_len] at hpl2
    have hps : ∀ (k : Nat) (hk : k < ps.length), (ps[k]).size ≤ s.size := fun k hk => by
      have := hpl1 (bl ps[k]) (List.mem_map.2 ⟨ps[k], List.getElem_mem _, rfl⟩)
      rw [bl_len] at this
      omega
    have hg5 := hx3.get (new_of w1 (.cells #[.string r, .slice none 0 0] 24))
    have hxw3 : Ext w w3 := HX1.out.tr ((Ext.alloc _ _).tr hx3)
    have hg2 := ((Ext.alloc w1 (.cells #[.string r, .slice none 0 0] 24)).tr hx3).get HD1.out
    have hl5 := lt_of_some hg5
    have hl2 := lt_of_some HD1.out
    have hszw := HX1.out.size
    have HPS := Lib.hid hps
    have HB3 := Lib.hid hb3
    have HP := Lib.hid ho3.sr
    have HG2 := Lib.hid hg2
    have HX3 := Lib.hid hxw3
    have hg5' := hg5
    clear hpl1 hps hb3 hx3 hxw3 hg2 hca hca' hcb ho3
    go_wp2_with fail
    go_loopw [7] (fun i wr => ∃ (k : Nat) (N : Option Addr) (d : Nat) (ws : List ByteArray), k ≤ ps.length ∧ i = .int .i64 k ∧ ws.length = k ∧ bls ws = ((bls ps).take k).map pln ∧ wr.heap[w1.heap.size]? = some (.cells #[.string r, .slice N k d] 24 (0, 0)) ∧ OwnS wr 9 w3.heap.size N d ws ∧ w3.grownBy wr (some w1.heap.size) ∧ ∀ t ∈ ws, t.size ≤ s.size) (fun i _ => ps.length - (intOf i).toNat)
    case atStart => exact ⟨0, none, 0, [], Nat.zero_le _, rfl, rfl, rfl, hg5', OwnS.nil _ _ _, World.grownBy.refl _ _, by simp⟩
    case round =>
      obtain ⟨k, N, d, ws, hk, rfl, hwk, hbw, hgr5, hor, hgr, hzs⟩ := hrel
      have hxr : Ext w wr := grown_new HX3.out hgr (fun g hg => by simp at hg; omega)
      have hszr := hgr.size
      have c0 : wr.cell? ⟨w1.heap.size, 0, none⟩ = some (.string r) := cells_of hgr5 0
      have c5 : wr.cell? ⟨w1.heap.size, 1, none⟩ = some (.slice N k d) := cells_of hgr5 1
      have HBW := Lib.hid hbw
      have HG5 := Lib.hid hgr5
      have HOR := Lib.hid hor
      have HGR := Lib.hid hgr
      have HXR := Lib.hid hxr
      have HZS := Lib.hid hzs
      clear hbw hgr5 hor hgr hxr hzs
      by_cases hlt : k < ps.length
      · obtain ⟨gp, op, rfl, hcp⟩ := (HP.out.grown HGR.out (fun g t hS e => by injection e with e; have h1 := hS.1; simp at h1; omega)).cell hlt
        have hpk := HPS.out k hlt
        have htk : ((bls ps).take (k + 1)).map pln = ((bls ps).take k).map pln ++ [pln (bl ps[k])] := by
          rw [List.take_succ_eq_append_getElem (by rw [bls_len]; exact hlt), List.map_append, bls_get hlt]
          rfl
        obtain ⟨p, hp⟩ : ∃ p, p = ps[k] := ⟨_, rfl⟩
        rw [← hp] at hcp hpk htk
        have c5a : ∀ o, (wr.alloc o).cell? ⟨w1.heap.size, 1, none⟩ = some (.slice N k d) := fun o => by rw [World.cell?_alloc_some _ _ _ (by rw [c5]; rfl)]; exact c5
        have hownA := fun t : ByteArray => HOR.out.ext ((Ext.alloc wr (.cells #[.string t] 9)).tr (Ext.drew _))
        have hcA := fun t : ByteArray => cells_of (w := (wr.alloc (.cells #[.string t] 9)).drew) (new_of wr (.cells #[.string t] 9)) 0
        have hne := HOR.out.ge
        rw [hwk] at hne
        have HNE := Lib.hid hne
        have HTK := Lib.hid htk
        have HOA := Lib.hid hownA
        have HCA := Lib.hid hcA
        clear hp htk hownA hcA hne
        go_wp2_with fail
        refine wp_region_held_drew (S := fun _ => True) (by kernel_rfl) trivial (fun _ => ?_)
        refine wpAnyH_take (i := 0) (v := ?_) rfl (by kernel_rfl) (by kernel_rfl) (by kernel_rfl) (fun _ _ _ h => h) (Or.inl ⟨by rfl, ?_⟩) trivial ?_
        rotate_left 1
        · intro w hSw
          go_simp
          all_goals with_reducible rfl
        try simp only [Act.put, List.setIfInBounds_toArray, List.set_cons_zero, List.set_cons_succ]
        refine wpAnyH_take (i := 2) (v := ?_) rfl (by kernel_rfl) (by kernel_rfl) (by kernel_rfl) (fun _ _ _ h => h) (Or.inl ⟨by rfl, ?_⟩) trivial ?_
        rotate_left 1
        · intro w hSw
          go_simp
          all_goals with_reducible rfl
        try simp only [Act.put, List.setIfInBounds_toArray, List.set_cons_zero, List.set_cons_succ]
        refine wpAnyH_take (i := 3) (v := ?_) rfl (by kernel_rfl) (by kernel_rfl) (by kernel_rfl) (fun _ _ _ h => h) (Or.inl ⟨by rfl, ?_⟩) trivial ?_
        rotate_left 1
        · intro w hSw
          go_simp
          all_goals with_reducible rfl
        try simp only [Act.put, List.setIfInBounds_toArray, List.set_cons_zero, List.set_cons_succ]
        refine wpAnyH_take (i := 4) (v := ?_) rfl (by kernel_rfl) (by kernel_rfl) (by kernel_rfl) (fun _ _ _ h => h) (Or.inl ⟨by rfl, ?_⟩) trivial ?_
        rotate_left 1
        · intro w hSw
          go_simp
          all_goals with_reducible rfl
        try simp only [Act.put, List.setIfInBounds_toArray, List.set_cons_zero, List.set_cons_succ]
        refine wpAnyH_ready (rs := [1, 5]) (by kernel_rfl) (by simp) ?_
        refine AllReadyH.cons rfl (fun K hK => ?_) ?_
        · go_simp
          refine hK.out _ _ trivial (fun _ => ?_)
          clear hK K
          try simp only [Act.put, List.setIfInBounds_toArray, List.set_cons_zero, List.set_cons_succ]
          refine wpAnyH_ready (rs := [5]) (by kernel_rfl) (by simp) ?_
          refine AllReadyH.cons rfl (fun K hK => ?_) ?_
          · go_simp
            refine hK.out _ _ trivial (fun _ => ?_)
            clear hK K
            try simp only [Act.put, List.setIfInBounds_toArray, List.set_cons_zero, List.set_cons_succ]
            refine wpAnyH_ready (rs := [6]) (by kernel_rfl) (by simp) ?_
            refine AllReadyH.cons rfl (fun K hK => ?_) ?_
            · go_simp
              refine (rplain_c p wr.drew (by omega)).mono ?_
              rintro e w5 ⟨t, rfl, ht, rfl⟩
              have HT := Lib.hid ht
              clear ht
              go_wp2_with fail
              refine hK.out _ _ trivial (fun _ => ?_)
              clear hK K
              try simp only [Act.put, List.setIfInBounds_toArray, List.set_cons_zero, List.set_cons_succ]
              refine wpAnyH_ready (rs := [7]) (by kernel_rfl) (by simp) ?_
              refine AllReadyH.cons rfl (fun K hK => ?_) ?_
              · go_simp
                refine hK.out _ _ trivial (fun _ => ?_)
                clear hK K
                try simp only [Act.put, List.setIfInBounds_toArray, List.set_cons_zero, List.set_cons_succ]
                refine wpAnyH_ready (rs := [8]) (by kernel_rfl) (by simp) ?_
                refine AllReadyH.cons rfl (fun K hK => ?_) ?_
                · refine step_append_str1 _ (by rfl) _ _ _ (by rfl) w3.heap.size 9 i0 Try.underlying22 hi0 hz0 hz1 hz2 N d ws k (by rfl) hwk (HOA.out t) wr.heap.size t (by rfl) (HCA.out t) (by omega) (by show w3.heap.size ≤ (wr.alloc (.cells #[.string t] 9)).heap.size; simp; omega) ?_
                  intro N2 d2 w6 ho6 hgr6
                  have hg5b := grown_get hgr6 (((Ext.alloc wr (.cells #[.string t] 9)).tr (Ext.drew _)).get HG5.out) (fun e => by have := HNE.out _ e; omega)
                  have e5 : w6.cell? ⟨w1.heap.size, 1, none⟩ = some (.slice N k d) := cells_of hg5b 1
                  have f5 : w6.frozen? ⟨w1.heap.size, 1, none⟩ = false := free_of hg5b 1
                  have HG5B := Lib.hid hg5b
                  have HO6 := Lib.hid ho6
                  have HGR6 := Lib.hid hgr6
                  clear hg5b ho6 hgr6
                  refine hK.out _ _ trivial (fun _ => ?_)
                  clear hK K
                  try simp only [Act.put, List.setIfInBounds_toArray, List.set_cons_zero, List.set_cons_succ]
                  refine wpAnyH_take (i := 9) (v := ?_) rfl (by kernel_rfl) (by kernel_rfl) (by kernel_rfl) (fun _ _ _ h => h) (Or.inl ⟨by rfl, ?_⟩) trivial ?_
                  rotate_left 1
                  · intro w hSw
                    go_simp
                    all_goals with_reducible rfl
                  try simp only [Act.put, List.setIfInBounds_toArray, List.set_cons_zero, List.set_cons_succ]
                  refine wpAnyH_ready (rs := [10]) (by kernel_rfl) (by simp) ?_
                  refine AllReadyH.cons rfl (fun K hK => ?_) ?_
                  · go_simp
                    refine hK.out _ _ trivial (fun _ => ?_)
                    clear hK K
                    try simp only [Act.put, List.setIfInBounds_toArray, List.set_cons_zero, List.set_cons_succ]
                    refine wpAnyH_done (by kernel_rfl) ?_ _
                    have hts : t.size ≤ s.size := by
                      rw [← bl_len, HT.out]
                      have := pln_len _ (bl p) (Nat.le_refl _)
                      rw [bl_len] at this
                      omega
                    go_wp2_with fail
                    go_roundw
                    case rel => exact ⟨k + 1, N2, d2, ws ++ [t], by omega, by go_num, by rw [List.length_append, hwk]; rfl, by rw [bls_snoc, HBW.out, HT.out, HTK.out], by rw [set_of HG5B.out 1 _]; simp, HO6.out.set1 (by omega), grown_more (grown_more (grown_more HGR.out (((Ext.alloc _ _).tr (Ext.drew _)).grown none) (by intro q h; cases h)) HGR6.out (fun q h => .inl (HNE.out q h))) (grown_set _ rfl _) (fun q h => .inr (by simpa using h.symm)), fun t' ht' => by rcases List.mem_append.1 ht' with h | h; exact HZS.out t' h; simp at h; rw [h]; exact hts⟩
                    case measure => simp [intOf]; omega
                  exact AllReadyH.nil
                exact AllReadyH.nil
              exact AllReadyH.nil
            exact AllReadyH.nil
          exact AllReadyH.nil
        refine AllReadyH.cons rfl (fun K hK => ?_) ?_
        · go_simp
          refine hK.out _ _ trivial (fun _ => ?_)
          clear hK K
          try simp only [Act.put, List.setIfInBounds_toArray, List.set_cons_zero, List.set_cons_succ]
          refine wpAnyH_ready (rs := [1, 6]) (by kernel_rfl) (by simp) ?_
          refine AllReadyH.cons rfl (fun K hK => ?_) ?_
          · go_simp
            refine hK.out _ _ trivial (fun _ => ?_)
            clear hK K
            try simp only [Act.put, List.setIfInBounds_toArray, List.set_cons_zero, List.set_cons_succ]
            refine wpAnyH_ready (rs := [6]) (by kernel_rfl) (by simp) ?_
            refine AllReadyH.cons rfl (fun K hK => ?_) ?_
            · go_simp
              refine (rplain_c p wr.drew (by omega)).mono ?_
              rintro e w5 ⟨t, rfl, ht, rfl⟩
              have HT := Lib.hid ht
              clear ht
              go_wp2_with fail
              refine hK.out _ _ trivial (fun _ => ?_)
              clear hK K
              try simp only [Act.put, List.setIfInBounds_toArray, List.set_cons_zero, List.set_cons_succ]
              refine wpAnyH_ready (rs := [7]) (by kernel_rfl) (by simp) ?_
              refine AllReadyH.cons rfl (fun K hK => ?_) ?_
              · go_simp
                refine hK.out _ _ trivial (fun _ => ?_)
                clear hK K
                try simp only [Act.put, List.setIfInBounds_toArray, List.set_cons_zero, List.set_cons_succ]
                refine wpAnyH_ready (rs := [8]) (by kernel_rfl) (by simp) ?_
                refine AllReadyH.cons rfl (fun K hK => ?_) ?_
                · refine step_append_str1 _ (by rfl) _ _ _ (by rfl) w3.heap.size 9 i0 Try.underlying22 hi0 hz0 hz1 hz2 N d ws k (by rfl) hwk (HOA.out t) wr.heap.size t (by rfl) (HCA.out t) (by omega) (by show w3.heap.size ≤ (wr.alloc (.cells #[.string t] 9)).heap.size; simp; omega) ?_
                  intro N2 d2 w6 ho6 hgr6
                  have hg5b := grown_get hgr6 (((Ext.alloc wr (.cells #[.string t] 9)).tr (Ext.drew _)).get HG5.out) (fun e => by have := HNE.out _ e; omega)
                  have e5 : w6.cell? ⟨w1.heap.size, 1, none⟩ = some (.slice N k d) := cells_of hg5b 1
                  have f5 : w6.frozen? ⟨w1.heap.size, 1, none⟩ = false := free_of hg5b 1
                  have HG5B := Lib.hid hg5b
                  have HO6 := Lib.hid ho6
                  have HGR6 := Lib.hid hgr6
                  clear hg5b ho6 hgr6
                  refine hK.out _ _ trivial (fun _ => ?_)
                  clear hK K
                  try simp only [Act.put, List.setIfInBounds_toArray, List.set_cons_zero, List.set_cons_succ]
                  refine wpAnyH_take (i := 9) (v := ?_) rfl (by kernel_rfl) (by kernel_rfl) (by kernel_rfl) (fun _ _ _ h => h) (Or.inl ⟨by rfl, ?_⟩) trivial ?_
                  rotate_left 1
                  · intro w hSw
                    go_simp
                    all_goals with_reducible rfl
                  try simp only [Act.put, List.setIfInBounds_toArray, List.set_cons_zero, List.set_cons_succ]
                  refine wpAnyH_ready (rs := [10]) (by kernel_rfl) (by simp) ?_
                  refine AllReadyH.cons rfl (fun K hK => ?_) ?_
                  · go_simp
                    refine hK.out _ _ trivial (fun _ => ?_)
                    clear hK K
                    try simp only [Act.put, List.setIfInBounds_toArray, List.set_cons_zero, List.set_cons_succ]
                    refine wpAnyH_done (by kernel_rfl) ?_ _
                    have hts : t.size ≤ s.size := by
                      rw [← bl_len, HT.out]
                      have := pln_len _ (bl p) (Nat.le_refl _)
                      rw [bl_len] at this
                      omega
                    go_wp2_with fail
                    go_roundw
                    case rel => exact ⟨k + 1, N2, d2, ws ++ [t], by omega, by go_num, by rw [List.length_append, hwk]; rfl, by rw [bls_snoc, HBW.out, HT.out, HTK.out], by rw [set_of HG5B.out 1 _]; simp, HO6.out.set1 (by omega), grown_more (grown_more (grown_more HGR.out (((Ext.alloc _ _).tr (Ext.drew _)).grown none) (by intro q h; cases h)) HGR6.out (fun q h => .inl (HNE.out q h))) (grown_set _ rfl _) (fun q h => .inr (by simpa using h.symm)), fun t' ht' => by rcases List.mem_append.1 ht' with h | h; exact HZS.out t' h; simp at h; rw [h]; exact hts⟩
                    case measure => simp [intOf]; omega
                  exact AllReadyH.nil
                exact AllReadyH.nil
              exact AllReadyH.nil
            exact AllReadyH.nil
          refine AllReadyH.cons rfl (fun K hK => ?_) ?_
          · go_simp
            refine (rplain_c p wr.drew (by omega)).mono ?_
            rintro e w5 ⟨t, rfl, ht, rfl⟩
            have HT := Lib.hid ht
            clear ht
            go_wp2_with fail
            refine hK.out _ _ trivial (fun _ => ?_)
            clear hK K
            try simp only [Act.put, List.setIfInBounds_toArray, List.set_cons_zero, List.set_cons_succ]
            refine wpAnyH_ready (rs := [1, 7]) (by kernel_rfl) (by simp) ?_
            refine AllReadyH.cons rfl (fun K hK => ?_) ?_
            · go_simp
              refine hK.out _ _ trivial (fun _ => ?_)
              clear hK K
              try simp only [Act.put, List.setIfInBounds_toArray, List.set_cons_zero, List.set_cons_succ]
              refine wpAnyH_ready (rs := [7]) (by kernel_rfl) (by simp) ?_
              refine AllReadyH.cons rfl (fun K hK => ?_) ?_
              · go_simp
                refine hK.out _ _ trivial (fun _ => ?_)
                clear hK K
                try simp only [Act.put, List.setIfInBounds_toArray, List.set_cons_zero, List.set_cons_succ]
                refine wpAnyH_ready (rs := [8]) (by kernel_rfl) (by simp) ?_
                refine AllReadyH.cons rfl (fun K hK => ?_) ?_
                · refine step_append_str1 _ (by rfl) _ _ _ (by rfl) w3.heap.size 9 i0 Try.underlying22 hi0 hz0 hz1 hz2 N d ws k (by rfl) hwk (HOA.out t) wr.heap.size t (by rfl) (HCA.out t) (by omega) (by show w3.heap.size ≤ (wr.alloc (.cells #[.string t] 9)).heap.size; simp; omega) ?_
                  intro N2 d2 w6 ho6 hgr6
                  have hg5b := grown_get hgr6 (((Ext.alloc wr (.cells #[.string t] 9)).tr (Ext.drew _)).get HG5.out) (fun e => by have := HNE.out _ e; omega)
                  have e5 : w6.cell? ⟨w1.heap.size, 1, none⟩ = some (.slice N k d) := cells_of hg5b 1
                  have f5 : w6.frozen? ⟨w1.heap.size, 1, none⟩ = false := free_of hg5b 1
                  have HG5B := Lib.hid hg5b
                  have HO6 := Lib.hid ho6
                  have HGR6 := Lib.hid hgr6
                  clear hg5b ho6 hgr6
                  refine hK.out _ _ trivial (fun _ => ?_)
                  clear hK K
                  try simp only [Act.put, List.setIfInBounds_toArray, List.set_cons_zero, List.set_cons_succ]
                  refine wpAnyH_take (i := 9) (v := ?_) rfl (by kernel_rfl) (by kernel_rfl) (by kernel_rfl) (fun _ _ _ h => h) (Or.inl ⟨by rfl, ?_⟩) trivial ?_
                  rotate_left 1
                  · intro w hSw
                    go_simp
                    all_goals with_reducible rfl
                  try simp only [Act.put, List.setIfInBounds_toArray, List.set_cons_zero, List.set_cons_succ]
                  refine wpAnyH_ready (rs := [10]) (by kernel_rfl) (by simp) ?_
                  refine AllReadyH.cons rfl (fun K hK => ?_) ?_
                  · go_simp
                    refine hK.out _ _ trivial (fun _ => ?_)
                    clear hK K
                    try simp only [Act.put, List.setIfInBounds_toArray, List.set_cons_zero, List.set_cons_succ]
                    refine wpAnyH_done (by kernel_rfl) ?_ _
                    have hts : t.size ≤ s.size := by
                      rw [← bl_len, HT.out]
                      have := pln_len _ (bl p) (Nat.le_refl _)
                      rw [bl_len] at this
                      omega
                    go_wp2_with fail
                    go_roundw
                    case rel => exact ⟨k + 1, N2, d2, ws ++ [t], by omega, by go_num, by rw [List.length_append, hwk]; rfl, by rw [bls_snoc, HBW.out, HT.out, HTK.out], by rw [set_of HG5B.out 1 _]; simp, HO6.out.set1 (by omega), grown_more (grown_more (grown_more HGR.out (((Ext.alloc _ _).tr (Ext.drew _)).grown none) (by intro q h; cases h)) HGR6.out (fun q h => .inl (HNE.out q h))) (grown_set _ rfl _) (fun q h => .inr (by simpa using h.symm)), fun t' ht' => by rcases List.mem_append.1 ht' with h | h; exact HZS.out t' h; simp at h; rw [h]; exact hts⟩
                    case measure => simp [intOf]; omega
                  exact AllReadyH.nil
                exact AllReadyH.nil
              exact AllReadyH.nil
            refine AllReadyH.cons rfl (fun K hK => ?_) ?_
            · go_simp
              refine hK.out _ _ trivial (fun _ => ?_)
              clear hK K
              try simp only [Act.put, List.setIfInBounds_toArray, List.set_cons_zero, List.set_cons_succ]
              refine wpAnyH_ready (rs := [1]) (by kernel_rfl) (by simp) ?_
              refine AllReadyH.cons rfl (fun K hK => ?_) ?_
              · go_simp
                refine hK.out _ _ trivial (fun _ => ?_)
                clear hK K
                try simp only [Act.put, List.setIfInBounds_toArray, List.set_cons_zero, List.set_cons_succ]
                refine wpAnyH_ready (rs := [8]) (by kernel_rfl) (by simp) ?_
                refine AllReadyH.cons rfl (fun K hK => ?_) ?_
                · refine step_append_str1 _ (by rfl) _ _ _ (by rfl) w3.heap.size 9 i0 Try.underlying22 hi0 hz0 hz1 hz2 N d ws k (by rfl) hwk (HOA.out t) wr.heap.size t (by rfl) (HCA.out t) (by omega) (by show w3.heap.size ≤ (wr.alloc (.cells #[.string t] 9)).heap.size; simp; omega) ?_
                  intro N2 d2 w6 ho6 hgr6
                  have hg5b := grown_get hgr6 (((Ext.alloc wr (.cells #[.string t] 9)).tr (Ext.drew _)).get HG5.out) (fun e => by have := HNE.out _ e; omega)
                  have e5 : w6.cell? ⟨w1.heap.size, 1, none⟩ = some (.slice N k d) := cells_of hg5b 1
                  have f5 : w6.frozen? ⟨w1.heap.size, 1, none⟩ = false := free_of hg5b 1
                  have HG5B := Lib.hid hg5b
                  have HO6 := Lib.hid ho6
                  have HGR6 := Lib.hid hgr6
                  clear hg5b ho6 hgr6
                  refine hK.out _ _ trivial (fun _ => ?_)
                  clear hK K
                  try simp only [Act.put, List.setIfInBounds_toArray, List.set_cons_zero, List.set_cons_succ]
                  refine wpAnyH_take (i := 9) (v := ?_) rfl (by kernel_rfl) (by kernel_rfl) (by kernel_rfl) (fun _ _ _ h => h) (Or.inl ⟨by rfl, ?_⟩) trivial ?_
                  rotate_left 1
                  · intro w hSw
                    go_simp
                    all_goals with_reducible rfl
                  try simp only [Act.put, List.setIfInBounds_toArray, List.set_cons_zero, List.set_cons_succ]
                  refine wpAnyH_ready (rs := [10]) (by kernel_rfl) (by simp) ?_
                  refine AllReadyH.cons rfl (fun K hK => ?_) ?_
                  · go_simp
                    refine hK.out _ _ trivial (fun _ => ?_)
                    clear hK K
                    try simp only [Act.put, List.setIfInBounds_toArray, List.set_cons_zero, List.set_cons_succ]
                    refine wpAnyH_done (by kernel_rfl) ?_ _
                    have hts : t.size ≤ s.size := by
                      rw [← bl_len, HT.out]
                      have := pln_len _ (bl p) (Nat.le_refl _)
                      rw [bl_len] at this
                      omega
                    go_wp2_with fail
                    go_roundw
                    case rel => exact ⟨k + 1, N2, d2, ws ++ [t], by omega, by go_num, by rw [List.length_append, hwk]; rfl, by rw [bls_snoc, HBW.out, HT.out, HTK.out], by rw [set_of HG5B.out 1 _]; simp, HO6.out.set1 (by omega), grown_more (grown_more (grown_more HGR.out (((Ext.alloc _ _).tr (Ext.drew _)).grown none) (by intro q h; cases h)) HGR6.out (fun q h => .inl (HNE.out q h))) (grown_set _ rfl _) (fun q h => .inr (by simpa using h.symm)), fun t' ht' => by rcases List.mem_append.1 ht' with h | h; exact HZS.out t' h; simp at h; rw [h]; exact hts⟩
                    case measure => simp [intOf]; omega
                  exact AllReadyH.nil
                exact AllReadyH.nil
              exact AllReadyH.nil
            exact AllReadyH.nil
          exact AllReadyH.nil
        exact AllReadyH.nil
      · have hall : bls ws = (spl 47 (bl sa)).map pln := by
          rw [HBW.out, List.take_of_length_le (by rw [bls_len]; omega), HB3.out]
        have hg2r := grown_get HGR.out HG2.out (fun e => by simp at e; omega)
        have hv2 : ∀ t ∈ ws, t.size ≤ 9223372036854775807 := fun t ht => by have := HZS.out t ht; omega
        have hval := rvalid_c r N d ws _ wr HOR.out.sr (by omega) hv2 (by omega)
        have htx := fun W (hx : Ext wr W) => rtext_c r N d ws _ W (HOR.out.ext hx).sr (by omega) hv2 (by omega)
        have hrp : rprs (bl s) = if vl (bl r) (bls ws) = true ∧ txt (bl r) (bls ws) = bl s then some (bl r, bls ws) else none := by
          unfold rprs
          rw [← HB1.out, hall, HR.out]
          rfl
        rw [hwk] at hval htx
        have HRP := Lib.hid hrp
        have HTX := Lib.hid htx
        have HG2R := Lib.hid hg2r
        have HOL := Lib.hid HOR.out.le
        clear hall hg2r hv2 hrp htx
        by_cases hv : vl (bl r) (bls ws) = true
        · rw [hv] at hval
          have HVAL := Lib.hid hval
          clear hval
          go_wp2_with fail
          refine HVAL.out.mono ?_
          rintro e w4 ⟨rfl, hx4⟩
          have hg54 := hx4.get HG5.out
          have v4 : w4.cell? ⟨w1.heap.size, 0, none⟩ = some (.string r) := cells_of hg54 0
          have v5 : w4.cell? ⟨w1.heap.size, 1, none⟩ = some (.slice N k d) := cells_of hg54 1
          have HG54 := Lib.hid hg54
          have HX4 := Lib.hid hx4
          clear hx4 hg54 HVAL
          go_wp2_with fail
          refine (HTX.out _ HX4.out).mono ?_
          rintro e w5 ⟨tt, rfl, htt, hx5⟩
          have hg55 := hx5.get HG54.out
          have u4 : w5.cell? ⟨w1.heap.size, 0, none⟩ = some (.string r) := cells_of hg55 0
          have u5 : w5.cell? ⟨w1.heap.size, 1, none⟩ = some (.slice N k d) := cells_of hg55 1
          have HX5 := Lib.hid (HX4.out.tr hx5)
          clear hx5 hg55
          by_cases he : tt = s
          · have te := beq_str_t he
            have hres : rprs (bl s) = some (bl r, bls ws) := by rw [HRP.out, if_pos ⟨hv, by rw [← htt, he]⟩]
            have HRES := Lib.hid hres
            have hg2f := HX5.out.get HG2R.out
            have x0 : w5.cell? ⟨w.heap.size, 0, none⟩ = some (.string ⟨#[]⟩) := cells_of hg2f 0
            have x1 : w5.cell? ⟨w.heap.size, 1, none⟩ = some (.slice none 0 0) := cells_of hg2f 1
            have b0 : w5.frozen? ⟨w.heap.size, 0, none⟩ = false := free_of hg2f 0
            have b1 : w5.frozen? ⟨w.heap.size, 1, none⟩ = false := free_of hg2f 1
            have HGZ := Lib.hid (two_stored (x := .string r) (y := .slice N k d) hg2f)
            have HOZ := Lib.hid ((HOR.out.ext HX5.out).set2 (g := w.heap.size) (x := .string r) (y := .slice N k d) (by omega))
            have hxz := HXR.out.tr HX5.out
            have HXZ := Lib.hid ((hxz.setCell (p := ⟨w.heap.size, 0, none⟩) (Nat.le_refl _) (.string r)).setCell (p := ⟨w.heap.size, 1, none⟩) (Nat.le_refl _) (.slice N k d))
            clear hg2f hxz hres htt he hv
            go_wp2_with fail
            have e0 := cells_of HGZ.out 0
            have e1 := cells_of HGZ.out 1
            refine bodyPost_ret (v := .tuple #[.agg #[.string r, .slice N k d], .bool true]) (by simp [results, Try.results21, go_sem, e0, e1]) rfl ⟨_, ?_, ⟨r, N, d, ws, by rw [hwk], HOZ.out.sr.more (fun _ _ _ => trivial), HOL.out.1, HOL.out.2, by rw [HRES.out]; rfl, by rw [HRES.out]; rfl⟩, HXZ.out⟩
            rw [HRES.out]
            rfl
          · have te := beq_str_f he
            have hres : rprs (bl s) = none := by rw [HRP.out, if_neg (fun h => he (bl_ext (htt.trans h.2)))]
            have HRES := Lib.hid hres
            clear hres htt he hv
            have hg2f := HX5.out.get HG2R.out
            have x0 : w5.cell? ⟨w.heap.size, 0, none⟩ = some (.string ⟨#[]⟩) := cells_of hg2f 0
            have x1 : w5.cell? ⟨w.heap.size, 1, none⟩ = some (.slice none 0 0) := cells_of hg2f 1
            have b0 : w5.frozen? ⟨w.heap.size, 0, none⟩ = false := free_of hg2f 0
            have b1 : w5.frozen? ⟨w.heap.size, 1, none⟩ = false := free_of hg2f 1
            have HGZ := Lib.hid (two_stored (x := .string ⟨#[]⟩) (y := .slice none 0 0) hg2f)
            have hxz := HXR.out.tr HX5.out
            have HXZ := Lib.hid ((hxz.setCell (p := ⟨w.heap.size, 0, none⟩) (Nat.le_refl _) (.string ⟨#[]⟩)).setCell (p := ⟨w.heap.size, 1, none⟩) (Nat.le_refl _) (.slice none 0 0))
            clear hg2f hxz
            go_wp2_with fail
            have e0 := cells_of HGZ.out 0
            have e1 := cells_of HGZ.out 1
            refine bodyPost_ret (v := .tuple #[.agg #[.string ⟨#[]⟩, .slice none 0 0], .bool false]) (by simp [results, Try.results21, go_sem, e0, e1]) rfl ⟨_, ?_, by rw [HRES.out]; exact NmR.none _, HXZ.out⟩
            rw [HRES.out]
            rfl
        · have hv' : vl (bl r) (bls ws) = false := by simpa using hv
          rw [hv'] at hval
          have hres : rprs (bl s) = none := by rw [HRP.out, if_neg (fun h => hv h.1)]
          have HRES := Lib.hid hres
          have HVAL := Lib.hid hval
          clear hval hres hv hv'
          go_wp2_with fail
          refine HVAL.out.mono ?_
          rintro e w4 ⟨rfl, hx4⟩
          have HX4 := Lib.hid hx4
          clear hx4
          have hg2f := HX4.out.get HG2R.out
          have x0 : w4.cell? ⟨w.heap.size, 0, none⟩ = some (.string ⟨#[]⟩) := cells_of hg2f 0
          have x1 : w4.cell? ⟨w.heap.size, 1, none⟩ = some (.slice none 0 0) := cells_of hg2f 1
          have b0 : w4.frozen? ⟨w.heap.size, 0, none⟩ = false := free_of hg2f 0
          have b1 : w4.frozen? ⟨w.heap.size, 1, none⟩ = false := free_of hg2f 1
          have HGZ := Lib.hid (two_stored (x := .string ⟨#[]⟩) (y := .slice none 0 0) hg2f)
          have hxz := HXR.out.tr HX4.out
          have HXZ := Lib.hid ((hxz.setCell (p := ⟨w.heap.size, 0, none⟩) (Nat.le_refl _) (.string ⟨#[]⟩)).setCell (p := ⟨w.heap.size, 1, none⟩) (Nat.le_refl _) (.slice none 0 0))
          clear hg2f hxz
          go_wp2_with fail
          have e0 := cells_of HGZ.out 0
          have e1 := cells_of HGZ.out 1
          refine bodyPost_ret (v := .tuple #[.agg #[.string ⟨#[]⟩, .slice none 0 0], .bool false]) (by simp [results, Try.results21, go_sem, e0, e1]) rfl ⟨_, ?_, by rw [HRES.out]; exact NmR.none _, HXZ.out⟩
          rw [HRES.out]
          rfl
  · have t2 := bne_t (a := (ss.length : Int)) (b := 2) (by omega)
    have hres : rprs (bl s) = none := by
      unfold rprs
      rw [← HB1.out]
      match ss, h2 with
      | [], _ => rfl
      | [_], _ => rfl
      | [_, _], h => exact absurd rfl h
      | _ :: _ :: _ :: _, _ => rfl
    have HRES := Lib.hid hres
    have HGZ := Lib.hid (two_stored (x := .string ⟨#[]⟩) (y := .slice none 0 0) HD1.out)
    have HXZ := Lib.hid ((HX1.out.setCell (p := ⟨w.heap.size, 0, none⟩) (Nat.le_refl _) (.string ⟨#[]⟩)).setCell (p := ⟨w.heap.size, 1, none⟩) (Nat.le_refl _) (.slice none 0 0))
    clear hres h2
    go_wp2_with fail
    have e0 := cells_of HGZ.out 0
    have e1 := cells_of HGZ.out 1
    refine bodyPost_ret (v := .tuple #[.agg #[.string ⟨#[]⟩, .slice none 0 0], .bool false]) (by simp [results, Try.results21, go_sem, e0, e1]) rfl ⟨_, ?_, by rw [HRES.out]; exact NmR.none _, HXZ.out⟩
    rw [HRES.out]
    rfl
end Go.Proofs.Ytgbdckiojjmncaa
