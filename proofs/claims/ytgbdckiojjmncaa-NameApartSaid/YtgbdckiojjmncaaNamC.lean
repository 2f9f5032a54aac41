/-
  Bytes and strings turned into each other; words with their backslashes: the package's and the reference's; words without them.
-/
import Derived.Test.YtgbdckiojjmncaaNamA
import Derived.Lib.ConvBytes
import Derived.Laws.IdiomStrings
import Derived.Laws.BytesArg
namespace Go.Proofs.Ytgbdckiojjmncaa
open Go.RowKit

theorem bytesWorld_ext' (w : World) (E : TypeId) (s : ByteArray) : Ext w (Lib.bytesWorld w E s) :=
  ⟨rfl, rfl, rfl, by rw [Lib.bytesWorld_size]; omega, fun k hk => Lib.bytesWorld_at_old w E s k hk⟩
theorem bytesWorld_rb' (w : World) (E : TypeId) (s : ByteArray) : RB (Lib.bytesWorld w E s) (fun g t => g = w.heap.size ∧ t = E) (some ⟨w.heap.size, 0, none⟩) (bl s) := by
  intro _
  refine ⟨_, 0, _, _, _, rfl, Lib.bytesWorld_at_new w E s, ⟨rfl, rfl⟩, fun j b hj => ?_⟩
  unfold bl at hj
  have hjl : j < s.data.size := by have := (List.getElem?_eq_some_iff.1 hj).1; simpa using this
  rw [Array.getElem?_toList] at hj
  unfold Lib.bytesCells
  rw [Nat.zero_add, Array.getElem?_append_left (by simpa using hjl), Array.getElem?_map, hj]
  rfl
/-- '[]byte(s)' in a region in the text's order -/
theorem wpList_conv_str {P : Program} (w : World) {ops : Array Oper} {rest : List Oper} {o : Oper} {a : Act} {Q : Exit → Act → World → Prop} (hgd : o.guard = none) (src dst : TypeId) (x : Operand) (ho : o.op = .convert src dst x)
    (E : TypeId) (hs : P.underlying src = some .string) (hd : P.underlying dst = some (.slice E)) (he : P.underlying E = some (.int .u8)) (s : ByteArray) (hx : a.eval x = .string s) (hm : s.size ≤ maxLen)
    (h : ∀ g c w', RB w' (fun g' t => g' = g ∧ t = E) (some ⟨g, 0, none⟩) (bl s) → s.size ≤ c → c ≤ maxLen → w.heap.size ≤ g → g < w'.heap.size → Ext w w' → wpList P ops Q rest (a.put o.dst (.slice (some ⟨g, 0, none⟩) s.size c)) w') : wpList P ops Q (o :: rest) a w := by
  have hrun := Lib.run_convert_string_bytes (P := P) w src dst E s hs hd he
  refine wpList_plain hgd fun K hK => ?_
  unfold Oper.wp execOp
  simp only [ho, hx, Sem.run_bind, Sem.run_pure, Result.andThen_ok, hrun]
  exact hK _ _ (h _ _ _ (bytesWorld_rb' w E s) (grownCap_ge _ _ _ _) (grownCap_le_maxLen _ _ _ _ hm) (Nat.le_refl _) (by rw [Lib.bytesWorld_size]; omega) (bytesWorld_ext' w E s))
/-- 'string(b)' -/
theorem conv_back {w : World} {S : Nat → TypeId → Prop} {A : Option Addr} {l : List UInt8} (c n : Nat) (h : RB w S A l) (hn : l.length = n) :
    (convert 28 9 (.slice A n c)).run Try.prog w = .ok (.string ⟨l.toArray⟩) w := by
  subst hn
  rcases A with _ | a
  · have : l = [] := by
      rcases l with _ | ⟨x, l⟩
      · rfl
      · obtain ⟨_, _, _, _, _, h, _⟩ := h (by simp)
        cases h
    subst this
    exact run_convert_bytes_nil w 28 5 Try.underlying28 Try.underlying5 0 c 9 Try.underlying9
  · refine run_convert_bytes_back w 28 9 5 a c l Try.underlying28 Try.underlying5 Try.underlying9 fun j hj => ?_
    obtain ⟨g, off, hA, hc⟩ := h.cell hj
    injection hA with hA
    subst hA
    rw [(addr_add _ _).2 rfl]
    exact hc

set_option maxRecDepth 100000 in
set_option maxHeartbeats 2000000 in
theorem escaped_c (s : ByteArray) (w : World) (hs : s.size ≤ 1000000) : Calls Try.prog 25 #[.string s] w fun e w' => ∃ t : ByteArray, e = .returned (.string t) ∧ bl t = esc (bl s) ∧ Ext w w' := by
  obtain ⟨i0, hi0, hz0, hz1, hz2⟩ := info_parts info_u8
  go_enter Try.func25, Try.ntmps25
  go_wp2_with (refine wpList_conv_str _ rfl 9 28 (.tmp 6) rfl 5 Try.underlying9 Try.underlying28 Try.underlying5 s rfl (by unfold maxLen; omega) ?_
               intro g c w1 hr hc hm hg hg2 hx1)
  have HR := Lib.hid hr
  have HX1 := Lib.hid hx1
  have HL := Lib.hid (bl_len s)
  clear hr hx1
  unfold maxLen at hm
  go_loopw [3, 9] (fun v i wr => ∃ (k : Nat) (B : Option Addr) (d n : Nat), k ≤ s.size ∧ i = .int .i64 k ∧ v = .slice B n d ∧ n ≤ 2 * k ∧ (esc ((bl s).take k)).length = n ∧ OwnB wr 5 w1.heap.size B d (esc ((bl s).take k)) ∧ Ext w1 wr) (fun _ i _ => s.size - (intOf i).toNat)
  case atStart => exact ⟨0, none, 0, 0, Nat.zero_le _, rfl, rfl, Nat.le_refl _, by simp [esc], by simpa [esc] using OwnB.nil _ _ _, Ext.refl _⟩
  case round =>
    obtain ⟨k, B, d, n, hk, rfl, rfl, hnk, hn, hor, hx⟩ := hrel
    have HX := Lib.hid hx
    by_cases hlt : k < s.size
    · have hp' : k < (bl s).length := by rw [bl_len]; exact hlt
      obtain ⟨g', off', hA, hc'⟩ := (HR.out.ext hx).cell hp'
      injection hA with hA
      injection hA with hA1 hA2
      subst hA1 hA2
      have hst := esc_take (bl s) hp'
      obtain ⟨b, hb⟩ : ∃ b, b = (bl s)[k] := ⟨_, rfl⟩
      rw [← hb, Nat.zero_add] at hc'
      rw [← hb] at hst
      have hsz := hx.size
      obtain ⟨E0, hE0⟩ : ∃ E0, E0 = esc ((bl s).take k) := ⟨_, rfl⟩
      rw [← hE0] at hn hor hst
      clear hb hE0 hx
      by_cases hmk : mk b = true
      · have hcm := isMark_c b wr
        rw [hmk] at hcm
        rw [es_mark hmk] at hst
        have hlit := RB.lit wr [92] #[.int .u8 92] 5 rfl
        have hor1 := hor.ext (Ext.alloc wr (.cells #[.int .u8 92] 5))
        have HLIT := Lib.hid hlit
        have HOR1 := Lib.hid hor1
        have HCM := Lib.hid hcm
        have HST := Lib.hid hst
        clear hlit hor1 hcm hst hor hmk
        go_wp2_with fail
        refine HCM.out.mono ?_
        rintro e w' ⟨rfl, rfl⟩
        go_wp2_with (at_builtin; first
          | (refine wpList_append_bytes _ rfl _ _ 28 rfl w1.heap.size 5 i0 Try.underlying28 hi0 hz0 hz1 hz2 B d E0 (by rw [hn]; rfl) HOR1.out _ (some ⟨wr.heap.size, 0, none⟩) 1 [92] rfl HLIT.out (by simp; omega) (by simp; omega) ?_
             intro A2 c2 w2 ho2 hg2' hb2
             have hx2 : Ext w1 w2 := grown_new (HX.out.tr (Ext.alloc _ _)) hg2' HOR1.out.ge
             have hlit2 := RB.lit w2 [b] #[.int .u8 (b.toNat : Int)] 5 rfl
             have hor2 := ho2.ext (Ext.alloc w2 (.cells #[.int .u8 (b.toNat : Int)] 5))
             have hn2 : (E0 ++ [92]).length = n + 1 := by rw [List.length_append, hn]; rfl
             rw [hn2]
             have hsz2 := hx2.size
             have HX2 := Lib.hid hx2
             have HLIT2 := Lib.hid hlit2
             have HOR2 := Lib.hid hor2
             have HN2 := Lib.hid hn2
             clear hx2 hlit2 hor2 ho2 hg2' hb2 hn2)
          | (refine wpList_append_bytes _ rfl _ _ 28 rfl w1.heap.size 5 i0 Try.underlying28 hi0 hz0 hz1 hz2 A2 c2 (E0 ++ [92]) (by rw [HN2.out]; rfl) HOR2.out _ (some ⟨w2.heap.size, 0, none⟩) 1 [b] rfl HLIT2.out (by rw [HN2.out]; simp; omega) (by simp; omega) ?_
             intro A3 c3 w3 ho3 hg3 hb3
             have hx3 : Ext w1 w3 := grown_new (HX2.out.tr (Ext.alloc _ _)) hg3 HOR2.out.ge
             have hn3 : (E0 ++ [92] ++ [b]).length = n + 2 := by rw [List.length_append, HN2.out]; rfl
             rw [hn3]))
        have e3 : E0 ++ [92] ++ [b] = esc ((bl s).take (k + 1)) := by rw [HST.out]; simp
        rw [e3] at ho3 hn3
        go_roundw
        case rel => exact ⟨k + 1, A3, c3, n + 2, by omega, by go_num, rfl, by omega, hn3, ho3, hx3⟩
        case measure => simp [intOf]; omega
      · have hmk' : mk b = false := by simpa using hmk
        have hcm := isMark_c b wr
        rw [hmk'] at hcm
        rw [es_plain hmk'] at hst
        have hlit := RB.lit wr [b] #[.int .u8 (b.toNat : Int)] 5 rfl
        have hor1 := hor.ext (Ext.alloc wr (.cells #[.int .u8 (b.toNat : Int)] 5))
        have HLIT := Lib.hid hlit
        have HOR1 := Lib.hid hor1
        have HCM := Lib.hid hcm
        have HST := Lib.hid hst
        clear hlit hor1 hcm hst hor hmk hmk'
        go_wp2_with fail
        refine HCM.out.mono ?_
        rintro e w' ⟨rfl, rfl⟩
        go_wp2_with (at_builtin; refine wpList_append_bytes _ rfl _ _ 28 rfl w1.heap.size 5 i0 Try.underlying28 hi0 hz0 hz1 hz2 B d E0 (by rw [hn]; rfl) HOR1.out _ (some ⟨wr.heap.size, 0, none⟩) 1 [b] rfl HLIT.out (by simp; omega) (by simp; omega) ?_
                     intro A2 c2 w2 ho2 hg2' hb2)
        have hx2 : Ext w1 w2 := grown_new (HX.out.tr (Ext.alloc _ _)) hg2' HOR1.out.ge
        have hn2 : (E0 ++ [b]).length = n + 1 := by rw [List.length_append, hn]; rfl
        rw [← HST.out] at ho2 hn2
        go_roundw
        case rel => exact ⟨k + 1, A2, c2, n + 1, by omega, by go_num, rfl, by omega, hn2, ho2, hx2⟩
        case measure => simp [intOf]; omega
    · have ek : (bl s).take k = bl s := List.take_of_length_le (by rw [bl_len]; omega)
      rw [ek] at hn hor
      have hcv := conv_back d n hor.rb hn
      obtain ⟨t, ht⟩ : ∃ t : ByteArray, t = ⟨(esc (bl s)).toArray⟩ := ⟨_, rfl⟩
      rw [← ht] at hcv
      have HT := Lib.hid ht
      clear hn hor ek ht hx
      go_wp2_with fail
      go_ret
      exact ⟨t, rfl, by rw [HT.out, bl_mk], HX1.out.tr HX.out⟩

theorem bl_append (a b : ByteArray) : bl (a ++ b) = bl a ++ bl b := by simp [bl]
theorem bl_ex (s : ByteArray) (i j : Nat) : bl (s.extract i j) = ((bl s).drop i).take (j - i) := by
  obtain ⟨l, rfl⟩ : ∃ l : List UInt8, s = ⟨l.toArray⟩ := ⟨bl s, bl_ext (bl_mk _).symm⟩
  rw [ByteArray.extract_mk, bl_mk, bl_mk]
theorem bl_cut {s : ByteArray} {k : Nat} (h : k < s.size) : bl (s.extract k (k + 1)) = [s[k]] := by
  have h' : k < (bl s).length := by rw [bl_len]; exact h
  rw [bl_ex, show k + 1 - k = 1 by omega, List.drop_eq_getElem_cons h', bl_get h]
  rfl
theorem cut_size {s : ByteArray} {k : Nat} (h : k < s.size) : (s.extract k (k + 1)).size = 1 := by
  rw [← bl_len, bl_cut h]
  rfl

set_option maxRecDepth 100000 in
set_option maxHeartbeats 2000000 in
theorem rescape_c (s : ByteArray) (w : World) (hs : s.size ≤ 1000000) : Calls Try.prog 32 #[.string s] w fun e w' => ∃ t : ByteArray, e = .returned (.string t) ∧ bl t = esc (bl s) ∧ w = w' := by
  go_enter Try.func32, Try.ntmps32
  go_wp2_with fail
  go_loop [3, 4] (fun v i => ∃ (k : Nat) (o : ByteArray), k ≤ s.size ∧ i = .int .i64 k ∧ v = .string o ∧ o.size ≤ 2 * k ∧ bl o = esc ((bl s).take k)) (fun _ i => s.size - (intOf i).toNat)
  case atStart => exact ⟨0, ⟨#[]⟩, Nat.zero_le _, rfl, rfl, Nat.le_refl _, by simp [esc, bl]⟩
  case round =>
    obtain ⟨k, o, hk, rfl, rfl, hos, ho⟩ := hrel
    by_cases hlt : k < s.size
    · have hp' : k < (bl s).length := by rw [bl_len]; exact hlt
      have hst := esc_take (bl s) hp'
      rw [bl_get hlt, ← ho] at hst
      have hcut := bl_cut hlt
      have hcs := cut_size hlt
      obtain ⟨x, hx⟩ : ∃ x, s.extract k (k + 1) = x := ⟨_, rfl⟩
      rw [hx] at hcut hcs
      obtain ⟨b, hb⟩ : ∃ b, s[k]'hlt = b := ⟨_, rfl⟩
      rw [hb] at hst hcut
      have HCUT := Lib.hid hcut
      clear hcut ho
      by_cases q1 : b = 47
      · have t1 := beq_t (a := (b.toNat : Int)) (b := 47) (by rw [q1]; rfl)
        rw [es_mark (by rw [q1]; rfl)] at hst
        clear q1
        skip
        have HST := Lib.hid hst
        clear hst
        go_wp2_with fail
        go_round
        case rel => exact ⟨k + 1, o ++ ⟨#[92]⟩ ++ x, by omega, by go_num, rfl, by rw [ByteArray.size_append', ByteArray.size_append', hcs, show (⟨#[92]⟩ : ByteArray).size = 1 from rfl]; omega, by rw [HST.out, bl_append, bl_append, HCUT.out, show bl ⟨#[92]⟩ = [92] from rfl]; simp⟩
        case measure => simp [intOf]; omega
      · have t1 := beq_f (a := (b.toNat : Int)) (b := 47) (u8_ne q1)
        by_cases q2 : b = 64
        · have t2 := beq_t (a := (b.toNat : Int)) (b := 64) (by rw [q2]; rfl)
          rw [es_mark (by rw [q2]; rfl)] at hst
          clear q1 q2
          skip
          have HST := Lib.hid hst
          clear hst
          go_wp2_with fail
          go_round
          case rel => exact ⟨k + 1, o ++ ⟨#[92]⟩ ++ x, by omega, by go_num, rfl, by rw [ByteArray.size_append', ByteArray.size_append', hcs, show (⟨#[92]⟩ : ByteArray).size = 1 from rfl]; omega, by rw [HST.out, bl_append, bl_append, HCUT.out, show bl ⟨#[92]⟩ = [92] from rfl]; simp⟩
          case measure => simp [intOf]; omega
        · have t2 := beq_f (a := (b.toNat : Int)) (b := 64) (u8_ne q2)
          by_cases q3 : b = 92
          · have t3 := beq_t (a := (b.toNat : Int)) (b := 92) (by rw [q3]; rfl)
            rw [es_mark (by rw [q3]; rfl)] at hst
            clear q1 q2 q3
            skip
            have HST := Lib.hid hst
            clear hst
            go_wp2_with fail
            go_round
            case rel => exact ⟨k + 1, o ++ ⟨#[92]⟩ ++ x, by omega, by go_num, rfl, by rw [ByteArray.size_append', ByteArray.size_append', hcs, show (⟨#[92]⟩ : ByteArray).size = 1 from rfl]; omega, by rw [HST.out, bl_append, bl_append, HCUT.out, show bl ⟨#[92]⟩ = [92] from rfl]; simp⟩
            case measure => simp [intOf]; omega
          · have t3 := beq_f (a := (b.toNat : Int)) (b := 92) (u8_ne q3)
            rw [es_plain (mk_not q1 q2 q3)] at hst
            clear q1 q2 q3
            skip
            have HST := Lib.hid hst
            clear hst
            go_wp2_with fail
            go_round
            case rel => exact ⟨k + 1, o ++ x, by omega, by go_num, rfl, by rw [ByteArray.size_append', hcs]; omega, by rw [HST.out, bl_append, HCUT.out]⟩
            case measure => simp [intOf]; omega
    · have ek : (bl s).take k = bl s := List.take_of_length_le (by rw [bl_len]; omega)
      rw [ek] at ho
      have HO := Lib.hid ho
      clear ho ek
      go_wp2_with fail
      go_ret
      exact ⟨o, rfl, HO.out, rfl⟩

theorem pln_at92 {l : List UInt8} {k : Nat} (h : k + 1 < l.length) (hc : l[k] = 92) : pln (l.drop k) = l[k + 1] :: pln (l.drop (k + 2)) := by
  rw [List.drop_eq_getElem_cons (by omega), hc, List.drop_eq_getElem_cons h, pln_b]
theorem pln_end92 {l : List UInt8} {k : Nat} (h : k + 1 = l.length) (hc : l[k] = 92) : pln (l.drop k) = [92] := by
  rw [List.drop_eq_getElem_cons (by omega), hc, List.drop_of_length_le (by omega), pln_b0]
theorem pln_at {l : List UInt8} {k : Nat} (h : k < l.length) (hc : l[k] ≠ 92) : pln (l.drop k) = l[k] :: pln (l.drop (k + 1)) := by
  rw [List.drop_eq_getElem_cons h, pln_pl hc]
set_option maxRecDepth 100000 in
set_option maxHeartbeats 2000000 in
theorem rplain_c (s : ByteArray) (w : World) (hs : s.size ≤ 1000000) : Calls Try.prog 39 #[.string s] w fun e w' => ∃ t : ByteArray, e = .returned (.string t) ∧ bl t = pln (bl s) ∧ w = w' := by
  go_enter Try.func39, Try.ntmps39
  go_wp2_with fail
  go_loop [3, 4] (fun v i => ∃ (k : Nat) (o : ByteArray), k ≤ s.size ∧ i = .int .i64 k ∧ v = .string o ∧ o.size ≤ k ∧ bl o ++ pln ((bl s).drop k) = pln (bl s)) (fun _ i => s.size - (intOf i).toNat)
  case atStart => exact ⟨0, ⟨#[]⟩, Nat.zero_le _, rfl, rfl, Nat.le_refl _, by simp [bl]⟩
  case round =>
    obtain ⟨k, o, hk, rfl, rfl, hos, ho⟩ := hrel
    by_cases hlt : k < s.size
    · have hp' : k < (bl s).length := by rw [bl_len]; exact hlt
      have hg := bl_get hlt
      by_cases q1 : s[k]'hlt = 92
      · have t1 := beq_t (a := ((s[k]'hlt).toNat : Int)) (b := 92) (by rw [q1]; rfl)
        by_cases h1 : k + 1 < s.size
        · have hst := pln_at92 (l := bl s) (k := k) (by rw [bl_len]; exact h1) (by rw [hg, q1])
          rw [bl_get h1] at hst
          have hcut := bl_cut h1
          have hcs := cut_size h1
          obtain ⟨x, hx⟩ : ∃ x, s.extract (k + 1) (k + 1 + 1) = x := ⟨_, rfl⟩
          rw [hx] at hcut hcs
          have HCUT := Lib.hid hcut
          have HST := Lib.hid hst
          have HO := Lib.hid ho
          clear hcut hst ho hg q1
          go_wp2_with fail
          go_round
          case rel => exact ⟨k + 2, o ++ x, by omega, by go_num, rfl, by rw [ByteArray.size_append', hcs]; omega, by rw [← HO.out, HST.out, bl_append, HCUT.out]; simp⟩
          case measure => simp [intOf]; omega
        · have hst := pln_end92 (l := bl s) (k := k) (by rw [bl_len]; omega) (by rw [hg, q1])
          have hcut := bl_cut hlt
          have hcs := cut_size hlt
          rw [q1] at hcut
          obtain ⟨x, hx⟩ : ∃ x, s.extract k (k + 1) = x := ⟨_, rfl⟩
          rw [hx] at hcut hcs
          have t2 : (s.size : Int) ≤ (k : Int) + 1 := by omega
          have HCUT := Lib.hid hcut
          have HST := Lib.hid hst
          have HO := Lib.hid ho
          clear hcut hst ho hg q1
          go_wp2_with fail
          go_round
          case rel => exact ⟨k + 1, o ++ x, by omega, by go_num, rfl, by rw [ByteArray.size_append', hcs]; omega, by rw [← HO.out, HST.out, bl_append, HCUT.out, List.drop_of_length_le (by rw [bl_len]; omega), pln_nil, List.append_nil]⟩
          case measure => simp [intOf]; omega
      · have t1 := beq_f (a := ((s[k]'hlt).toNat : Int)) (b := 92) (u8_ne q1)
        have hst := pln_at (l := bl s) (k := k) hp' (by rw [hg]; exact q1)
        rw [hg] at hst
        have hcut := bl_cut hlt
        have hcs := cut_size hlt
        obtain ⟨x, hx⟩ : ∃ x, s.extract k (k + 1) = x := ⟨_, rfl⟩
        rw [hx] at hcut hcs
        have HCUT := Lib.hid hcut
        have HST := Lib.hid hst
        have HO := Lib.hid ho
        clear hcut hst ho hg q1
        go_wp2_with fail
        go_round
        case rel => exact ⟨k + 1, o ++ x, by omega, by go_num, rfl, by rw [ByteArray.size_append', hcs]; omega, by rw [← HO.out, HST.out, bl_append, HCUT.out]; simp⟩
        case measure => simp [intOf]; omega
    · rw [List.drop_of_length_le (by rw [bl_len]; omega), pln_nil, List.append_nil] at ho
      have HO := Lib.hid ho
      clear ho
      go_wp2_with fail
      go_ret
      exact ⟨o, rfl, HO.out, rfl⟩
end Go.Proofs.Ytgbdckiojjmncaa
