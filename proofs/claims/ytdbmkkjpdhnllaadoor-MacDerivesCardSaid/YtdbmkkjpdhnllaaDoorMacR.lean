/-
  A row of parts is made longer by the parts of another row.
-/
import Derived.Test.YtdbmkkjpdhnllaaDoorShaE
namespace Go.Proofs.YtdbmkkjpdhnllaaDoor
open Go.RowKit

/-- values that are slices of bytes, the capacities no less than the lengths -/
def AsC (w : World) (T : Nat → TypeId → Prop) (vs : List Value) (ls : List (List UInt8)) : Prop :=
  vs.length = ls.length ∧ ∀ (j : Nat) (l : List UInt8), ls[j]? = some l → ∃ (B : Option Addr) (c : Nat), vs[j]? = some (Value.slice B l.length c) ∧ RB w T B l ∧ l.length ≤ c ∧ c ≤ 9223372036854775807
section
variable {w w' : World} {S T T' : Nat → TypeId → Prop} {A : Option Addr} {ls ms : List (List UInt8)} {vs us : List Value}
theorem AsC.nil : AsC w T [] [] := ⟨rfl, fun j l h => by simp at h⟩
theorem AsC.one (h : AsC w T vs ls) : ∀ u ∈ vs, u.oneCell' = true := by
  intro u hu
  obtain ⟨j, hj, rfl⟩ := List.getElem_of_mem hu
  obtain ⟨B, c, h1, _⟩ := h.2 j _ (List.getElem?_eq_getElem (by rw [← h.1]; exact hj))
  rw [List.getElem?_eq_getElem hj] at h1
  rw [Option.some.inj h1]
  rfl
theorem AsC.keep (h : AsC w T vs ls) (hk : ∀ B l, RB w T B l → RB w' T' B l) : AsC w' T' vs ls :=
  ⟨h.1, fun j l hj => (h.2 j l hj).imp fun _ ⟨c, h1, h2, h3⟩ => ⟨c, h1, hk _ _ h2, h3⟩⟩
theorem AsC.ext (h : AsC w T vs ls) (hx : Ext w w') : AsC w' T vs ls := h.keep fun _ _ h => h.ext hx
theorem AsC.more (h : AsC w T vs ls) (hS : ∀ g t, T g t → T' g t) : AsC w T' vs ls := h.keep fun _ _ h => h.more hS
theorem AsC.append (h : AsC w T vs ls) (k : AsC w T us ms) : AsC w T (vs ++ us) (ls ++ ms) := by
  refine ⟨by simp [h.1, k.1], fun j l hj => ?_⟩
  by_cases hlt : j < ls.length
  · rw [List.getElem?_append_left hlt] at hj
    rw [List.getElem?_append_left (by rw [h.1]; exact hlt)]
    exact h.2 j l hj
  · rw [List.getElem?_append_right (by omega)] at hj
    rw [List.getElem?_append_right (by rw [h.1]; omega), h.1]
    exact k.2 _ l hj
theorem AsC.single {B : Option Addr} {l : List UInt8} {c : Nat} (h : RB w T B l) (hc : l.length ≤ c) (hm : c ≤ 9223372036854775807) : AsC w T [.slice B l.length c] [l] := by
  refine ⟨rfl, fun j m hj => ?_⟩
  rcases j with _ | j
  · simp at hj
    subst hj
    exact ⟨B, c, rfl, h, hc, hm⟩
  · simp at hj
theorem RBC.vals (h : RBC w S T A ls) : ∃ us, AsC w T us ls ∧ (us ≠ [] → ∃ ad, A = some ad ∧ ∀ j u, us[j]? = some u → w.cell? (ad.add j) = some u) := by
  by_cases hl : 0 < ls.length
  · obtain ⟨g, off, cs, t, fr, rfl, hh, _, hc⟩ := h hl
    have hat : ∀ j, j < ls.length → ∃ B c, cs[off + j]? = some (.slice B (ls.getD j []).length c) ∧ RB w T B (ls.getD j []) ∧ (ls.getD j []).length ≤ c ∧ c ≤ 9223372036854775807 := by
      intro j hj
      have := hc j ls[j] (List.getElem?_eq_getElem hj)
      rw [List.getD_eq_getElem?_getD, List.getElem?_eq_getElem hj]
      exact this
    have hsz : off + ls.length ≤ cs.size := by
      obtain ⟨B, c, h1, _⟩ := hat (ls.length - 1) (by omega)
      have := (Array.getElem?_eq_some_iff.1 h1).1
      omega
    have hul : ((cs.toList.drop off).take ls.length).length = ls.length := by
      have e : cs.toList.length = cs.size := Array.length_toList
      rw [List.length_take, List.length_drop, e]; omega
    have hu : ∀ j, j < ls.length → ((cs.toList.drop off).take ls.length)[j]? = cs[off + j]? := by
      intro j hj
      rw [List.getElem?_take, if_pos hj, List.getElem?_drop, Array.getElem?_toList]
    refine ⟨(cs.toList.drop off).take ls.length, ⟨hul, fun j l hj => ?_⟩, fun _ => ⟨_, rfl, fun j u hj => ?_⟩⟩
    · rw [hu j (List.getElem?_eq_some_iff.1 hj).1]
      exact hc j l hj
    · have hjl : j < ls.length := by have := (List.getElem?_eq_some_iff.1 hj).1; rw [hul] at this; exact this
      rw [hu j hjl] at hj
      rw [(addr_add _ _).2 rfl, cells_of hh]
      exact hj
  · have : ls = [] := List.eq_nil_of_length_eq_zero (by omega)
    subst this
    exact ⟨[], AsC.nil, fun h => absurd rfl h⟩
theorem OwnV.rbc {E : TypeId} {base c : Nat} (h : OwnV w E base A c vs) (hr : AsC w T vs ls) : RBC w (fun _ _ => True) T A ls := by
  intro hl
  rcases h.block with ⟨_, _, rfl⟩ | ⟨g, cs, rfl, _, hh, _, _, _, h4⟩
  · have := hr.1; simp at this; omega
  · refine ⟨g, 0, cs, E, (0, 0), rfl, hh, trivial, fun j l hj => ?_⟩
    obtain ⟨B, d, h1, h2⟩ := hr.2 j l hj
    refine ⟨B, d, ?_, h2⟩
    have hjl : j < vs.length := (List.getElem?_eq_some_iff.1 h1).1
    have : (cs.toList.take vs.length)[j]? = vs[j]? := by rw [h4]
    rw [List.getElem?_take, if_pos hjl, h1] at this
    simpa using this
/-- a row that is written out in the text -/
theorem OwnV.lit {E : TypeId} {base : Nat} (hb : base ≤ w.heap.size) (hm : vs.length ≤ maxLen) : OwnV (w.alloc (.cells vs.toArray E)) E base (some ⟨w.heap.size, 0, none⟩) vs.length vs := by
  refine ⟨by simp, .inr ⟨w.heap.size, vs.length, vs.toArray, rfl, hb, new_of _ _, Nat.le_refl _, hm, by simp, ?_⟩⟩
  simp
end

theorem run_append_vals {P : Program} (w : World) (base : Nat) (t ty E : TypeId) (i : TypeInfo) (z : Value) (bytes : Nat) (ht : P.underlying t = some (.slice E)) (hi : P.info? E = some i) (hz : i.zero = some z) (hs : i.size = 1) (hy : i.bytes = bytes) (hzs : z.cells.size = 1)
    (A : Option Addr) (c : Nat) (vs : List Value) (hown : OwnV w E base A c vs) (B : Option Addr) (d : Nat) (us : List Value) (hB : us ≠ [] → ∃ ad, B = some ad ∧ ∀ j u, us[j]? = some u → w.cell? (ad.add j) = some u) (h1 : ∀ u ∈ us, u.oneCell' = true)
    (hlen : vs.length + us.length ≤ maxLen) (hbytes : (vs.length + us.length) * bytes ≤ 140737488355328) (hbase : base ≤ w.heap.size) :
    ∃ A' c' w', (Builtin.append_ #[t, t] ty #[.slice A vs.length c, .slice B us.length d]).run P w = .ok (.slice A' (vs ++ us).length c') w' ∧ OwnV w' E base A' c' (vs ++ us) ∧ w.grownBy w' (Value.slice A vs.length c).ownBlock := by
  rcases B with _ | ad
  · have hu : us = [] := by
      rcases us with _ | ⟨u, us⟩
      · rfl
      · obtain ⟨_, h, _⟩ := hB (by simp)
        cases h
    subst hu
    refine ⟨A, c, w, ?_, by simpa using hown, World.grownBy.refl w _⟩
    rcases hown.block with ⟨rfl, rfl, rfl⟩ | ⟨g, cs, rfl, hg, hh, h1, _⟩
    · simp [Builtin.append_, run_underlying ht, sizeOf, typeInfo, hi, Builtin.lenOf, Builtin.firstCells]
    · simp [Builtin.append_, run_underlying ht, sizeOf, typeInfo, hi, Builtin.lenOf, Builtin.firstCells, h1, storeCells]
  · obtain ⟨v', w', hrun, h2, h3, _, _⟩ := run_append_own_at (P := P) w base t ty E i z 1 bytes ht hi hz hs hy hzs (by omega) (.slice A vs.length c) vs.length vs hown ad us.length d us (by simp)
      (fun j u hj => by
        obtain ⟨ad', h, hc⟩ := hB (by rintro rfl; simp at hj)
        injection h with h
        subst h
        exact hc j u hj) h1 hlen hbytes hbase
    have h' : w'.ownsRow base E 1 v' (vs ++ us).length (vs ++ us) := by rw [List.length_append]; exact h2
    have shape : ∃ A' c', v' = .slice A' (vs ++ us).length c' := by
      rcases h'.2 with ⟨rfl, hn⟩ | ⟨g, cap, cs, rfl, _⟩
      · exact ⟨none, 0, by rw [hn]⟩
      · exact ⟨_, _, rfl⟩
    obtain ⟨A', c', rfl⟩ := shape
    exact ⟨A', c', w', hrun, h', h3⟩

/-- 'append(parts, more...)' at parts of bytes -/
theorem wpList_append_rows {P : Program} (w : World) {ops : Array Oper} {rest : List Oper} {o : Oper} {a : Act} {Q : Exit → Act → World → Prop} (hgd : o.guard = none) (s x : Operand) (t : TypeId)
    (ho : o.op = .call { callee := .builtin .append, args := #[s, x], argTypes := #[t, t] })
    (base : Nat) (E : TypeId) (i : TypeInfo) (z : Value) (ht : P.underlying t = some (.slice E)) (hi : P.info? E = some i) (hz : i.zero = some z) (hsz : i.size = 1) (hy : i.bytes = 24) (hzs : z.cells.size = 1)
    (A : Option Addr) (c n : Nat) (vs : List Value) (hs : a.eval s = .slice A n c) (hn : vs.length = n) (hown : OwnV w E base A c vs) (S T : Nat → TypeId → Prop) (B : Option Addr) (k d : Nat) (ls ms : List (List UInt8)) (hx : a.eval x = .slice B k d) (hk : ms.length = k) (hr : RBC w S T B ms)
    (hv : AsC w T vs ls) (hT : ∀ g t', T g t' → g < base) (hlen : n + k ≤ 1000000) (hbase : base ≤ w.heap.size)
    (h : ∀ A' c' w', RBC w' (fun _ _ => True) T A' (ls ++ ms) → w.grownBy w' (Value.slice A n c).ownBlock → wpList P ops Q rest (a.put o.dst (.slice A' (ls ++ ms).length c')) w') : wpList P ops Q (o :: rest) a w := by
  subst hk hn
  obtain ⟨us, hu, hB⟩ := hr.vals
  have hul := hu.1
  obtain ⟨A', c', w', hrun, h2, h3⟩ := run_append_vals (P := P) w base t o.type E i z 24 ht hi hz hsz hy hzs A c vs hown B d us hB hu.one (by rw [hul]; unfold maxLen; omega) (by rw [hul]; omega) hbase
  rw [hul] at hrun
  have hl : (vs ++ us).length = (ls ++ ms).length := by rw [List.length_append, List.length_append, hv.1, hul]
  rw [hl] at hrun
  have hge := hown.ge
  have hb : AsC w' T (vs ++ us) (ls ++ ms) := (hv.append hu).keep fun B l hr => hr.grown h3 (fun g t' hs e => by have h1 := hge g e; have h2 := hT g t' hs; omega)
  refine wpList_plain hgd fun K hK => ?_
  unfold Oper.wp execOp
  simp only [ho, resolve, invoke, builtin, Sem.run_bind, Sem.run_pure, Result.andThen_ok, List.map_toArray, List.map_cons, List.map_nil, hs, hx, hrun]
  exact hK _ _ (h A' c' w' (h2.rbc hb) h3)
end Go.Proofs.YtdbmkkjpdhnllaaDoor
