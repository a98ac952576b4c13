/- append onto a slice that has no room and no element (nil, or new): what is answered is new. -/
import Derived.Test.YtnjcaolkcmpdcaaHMem
import Derived.Deep.AppendSrc
import Derived.Deep.AppendLies
namespace Go.Proofs.Ytnjcaolkcmpdcaa
open Go.RowKit
set_option linter.unusedVariables false
theorem run_first0 (w : World) (size : Nat) (b : Option Addr) : (Builtin.firstCells size 0 (.slice b 0 0)).run Try.prog w = .ok #[] w := by
  cases b with
  | none => exact run_firstCells_none w size 0 0 0
  | some ad => exact run_firstCells_some w size 0 ad 0 0 [] (by simp) (by simp)
theorem run_app0 (w : World) (t ty e : TypeId) (i : TypeInfo) (z : Value) (size bytes : Nat) (ht : Try.prog.underlying t = some (.slice e)) (hi : Try.prog.info? e = some i) (hz : i.zero = some z)
    (hsize : i.size = size) (hby : i.bytes = bytes) (hzs : z.cells.size = size) (hsz : 0 < size) (b : Option Addr)
    (ad : Addr) (m c : Nat) (news : List Value) (hl : news.length = m * size) (hnews : ∀ j u, news[j]? = some u → w.cell? (ad.add j) = some u) (h1 : ∀ u ∈ news, u.oneCell' = true)
    (hm : 0 < m) (h63 : m ≤ maxLen) (hbytes : m * bytes ≤ 140737488355328) :
    ∃ g cap w', (Builtin.append_ #[t, t] ty #[.slice b 0 0, .slice (some ad) m c]).run Try.prog w = .ok (.slice (some ⟨g, 0, none⟩) m cap) w' ∧
      w'.ownsRow w.heap.size e size (.slice (some ⟨g, 0, none⟩) m cap) m news ∧ Below w.heap.size w w' := by
  have hsrc : Src Try.prog i.size t (.slice (some ad) m c) m news w := Src.ofSlice w ht ad m c news (by rw [hsize]; exact hl) hnews h1
  have hcap : Builtin.nextslicecap (0 + m) 0 * i.bytes ≤ 281474976710656 := by
    rw [hby]
    have : Builtin.nextslicecap (0 + m) 0 = m := by
      unfold Builtin.nextslicecap
      simp
      omega
    rw [this]
    omega
  have h63' : (((0 + m : Nat)) : Int) ≤ 9223372036854775807 := by unfold maxLen at h63; omega
  have e1 := run_append_grow_src w t t ty e i z ht hi hz b 0 0 [] (run_first0 _ _ _) (.slice (some ad) m c) m news hsrc (by omega) h63' hcap
  have e2 := run_append_grow_src w t t ty e i z ht hi hz none 0 0 [] (run_first0 _ _ _) (.slice (some ad) m c) m news hsrc (by omega) h63' hcap
  obtain ⟨g, cap, w', hr, h2, h3, h4, h5⟩ := run_append_lies (P := Try.prog) w t ty w.heap.size e i z size bytes ht hi hz hsize hby hzs hsz (.slice none 0 0) 0 [] ⟨by simp, .inl ⟨rfl, rfl⟩⟩ ad m c news hl hnews h1 hm (by omega) (by simpa using hbytes) (Nat.le_refl _) w.heap.size rfl
  refine ⟨g, cap, w', ?_, ?_, ?_⟩
  · rw [e1, ← e2, hr, Nat.zero_add]
  · simpa using h2
  · exact (Below.refl _ w).grown h3 (Nat.le_refl _) (fun k hk => by cases hk)
theorem run_app00 (w : World) (t ty e : TypeId) (i : TypeInfo) (ht : Try.prog.underlying t = some (.slice e)) (hi : Try.prog.info? e = some i) (b src : Option Addr) (c : Nat) :
    (Builtin.append_ #[t, t] ty #[.slice b 0 0, .slice src 0 c]).run Try.prog w = .ok (.slice b 0 0) w := by
  have hs : Src Try.prog i.size t (.slice src 0 c) 0 [] w := by
    cases src with
    | none => exact Src.ofNil _ ht c
    | some ad => exact Src.ofSlice _ ht ad 0 c [] (by simp) (by simp) (by simp)
  cases b with
  | none => simp [Builtin.append_, run_underlying ht, sizeOf, typeInfo, hi, hs.len, hs.cells]
  | some ad => simp [Builtin.append_, run_underlying ht, sizeOf, typeInfo, hi, hs.len, hs.cells, storeCells]
/-- what comes of it: cells of the call's own, if there are any. -/
structure App0 (w w' : World) (e : TypeId) (size : Nat) (b a : Option Addr) (m c : Nat) (news : List Value) : Prop where
  bel : Below w.heap.size w w'
  own : 0 < m → w'.ownsRow w.heap.size e size (.slice a m c) m news
  nil : m = 0 → a = b ∧ c = 0
theorem exec_app0 {o : Oper} {a : Act} {w : World} {K : Act → World → Prop} {Q : Exit → Act → World → Prop} (s x : Operand) (t : TypeId) (ho : o.op = .call { callee := .builtin .append, args := #[s, x], argTypes := #[t, t] })
    (e : TypeId) (i : TypeInfo) (z : Value) (size bytes : Nat) (ht : Try.prog.underlying t = some (.slice e)) (hi : Try.prog.info? e = some i) (hz : i.zero = some z) (hsize : i.size = size) (hby : i.bytes = bytes) (hzs : z.cells.size = size) (hsz : 0 < size) (b : Option Addr) (hs : a.eval s = .slice b 0 0)
    (src : Option Addr) (m c : Nat) (news : List Value) (hx : a.eval x = .slice src m c) (hl : news.length = m * size) (hnews : 0 < m → ∃ ad, src = some ad ∧ ∀ j u, news[j]? = some u → w.cell? (ad.add j) = some u) (h1 : ∀ u ∈ news, u.oneCell' = true) (h63 : m ≤ maxLen) (hbytes : m * bytes ≤ 140737488355328)
    (h : ∀ a' c' w', App0 w w' e size b a' m c' news → K (a.put o.dst (.slice a' m c')) w') : Oper.wp Try.prog o a w K Q := by
  rcases Nat.eq_zero_or_pos m with hm | hm
  · subst hm
    obtain rfl : news = [] := List.eq_nil_of_length_eq_zero (by simpa using hl)
    have hr := run_app00 w t o.type e i ht hi b src c
    unfold Oper.wp
    simp [execOp, ho, resolve, invoke, builtin, hs, hx, hr, Result.andThen]
    exact h b 0 w ⟨Below.refl _ _, fun h => absurd h (by omega), fun _ => ⟨rfl, rfl⟩⟩
  · obtain ⟨ad, rfl, hn⟩ := hnews hm
    obtain ⟨g, cap, w', hr, h2, h3⟩ := run_app0 w t o.type e i z size bytes ht hi hz hsize hby hzs hsz b ad m c news hl hn h1 hm h63 hbytes
    unfold Oper.wp execOp
    simp only [ho, resolve, invoke, builtin, Sem.run_bind, Sem.run_pure, Result.andThen_ok, List.map_toArray, List.map_cons, List.map_nil, hs, hx, hr]
    exact h _ cap w' ⟨h3, fun _ => h2, fun h => absurd h (by omega)⟩
theorem step_app0 {ops : Array Oper} {o : Oper} {a : Act} {w : World} {K : Act → World → Prop} {Q : Exit → Act → World → Prop} {E : Prop} (hgd : o.guard = none) (s x : Operand) (t : TypeId) (ho : o.op = .call { callee := .builtin .append, args := #[s, x], argTypes := #[t, t] })
    (e : TypeId) (i : TypeInfo) (z : Value) (size bytes : Nat) (ht : Try.prog.underlying t = some (.slice e)) (hi : Try.prog.info? e = some i) (hz : i.zero = some z) (hsize : i.size = size) (hby : i.bytes = bytes) (hzs : z.cells.size = size) (hsz : 0 < size) (b : Option Addr) (hs : a.eval s = .slice b 0 0)
    (src : Option Addr) (m c : Nat) (news : List Value) (hx : a.eval x = .slice src m c) (hl : news.length = m * size) (hnews : 0 < m → ∃ ad, src = some ad ∧ ∀ j u, news[j]? = some u → w.cell? (ad.add j) = some u) (h1 : ∀ u ∈ news, u.oneCell' = true) (h63 : m ≤ maxLen) (hbytes : m * bytes ≤ 140737488355328)
    (h : ∀ a' c' w', App0 w w' e size b a' m c' news → K (a.put o.dst (.slice a' m c')) w') : if Region.wanted o (yielded ops a.tmps) = true then Oper.wp Try.prog o a w K Q else E := by
  rw [if_pos (by simp [Region.wanted, hgd])]
  exact exec_app0 s x t ho e i z size bytes ht hi hz hsize hby hzs hsz b hs src m c news hx hl hnews h1 h63 hbytes h
theorem wpList_app0 {ops : Array Oper} {rest : List Oper} {o : Oper} {a : Act} {w : World} {Q : Exit → Act → World → Prop} (hgd : o.guard = none) (s x : Operand) (t : TypeId) (ho : o.op = .call { callee := .builtin .append, args := #[s, x], argTypes := #[t, t] })
    (e : TypeId) (i : TypeInfo) (z : Value) (size bytes : Nat) (ht : Try.prog.underlying t = some (.slice e)) (hi : Try.prog.info? e = some i) (hz : i.zero = some z) (hsize : i.size = size) (hby : i.bytes = bytes) (hzs : z.cells.size = size) (hsz : 0 < size) (b : Option Addr) (hs : a.eval s = .slice b 0 0)
    (src : Option Addr) (m c : Nat) (news : List Value) (hx : a.eval x = .slice src m c) (hl : news.length = m * size) (hnews : 0 < m → ∃ ad, src = some ad ∧ ∀ j u, news[j]? = some u → w.cell? (ad.add j) = some u) (h1 : ∀ u ∈ news, u.oneCell' = true) (h63 : m ≤ maxLen) (hbytes : m * bytes ≤ 140737488355328)
    (h : ∀ a' c' w', App0 w w' e size b a' m c' news → wpList Try.prog ops Q rest (a.put o.dst (.slice a' m c')) w') : wpList Try.prog ops Q (o :: rest) a w := by
  refine wpList_plain hgd fun K hK => ?_
  exact exec_app0 s x t ho e i z size bytes ht hi hz hsize hby hzs hsz b hs src m c news hx hl hnews h1 h63 hbytes (fun a' c' w' hq => hK _ _ (h a' c' w' hq))
/-- of bytes. -/
theorem App0.row {w w' : World} {b a : Option Addr} {c : Nat} {l : List Nat} (h : App0 w w' 5 1 b a l.length c (cells l)) (hb : ∀ x ∈ l, x < 256) (hm : l.length ≤ maxLen) : Row w' a l ∧ l.length ≤ c ∧ c ≤ maxLen ∧ ∀ bb, a = some bb → b = some bb ∨ w.heap.size ≤ bb.block := by
  rcases Nat.eq_zero_or_pos l.length with h0 | h0
  · obtain ⟨rfl, rfl⟩ := h.nil h0
    obtain rfl : l = [] := List.eq_nil_of_length_eq_zero h0
    exact ⟨row_nil _ _, Nat.le_refl _, Nat.zero_le _, fun bb hb => .inl hb⟩
  · obtain ⟨a2, c2, he, h1, h2, h3⟩ := own_row (h.own h0) hb hm
    cases he
    exact ⟨h3, h1, h2, fun bb hb => .inr (own_ge (h.own h0) bb.block (by subst hb; rfl))⟩
end Go.Proofs.Ytnjcaolkcmpdcaa
