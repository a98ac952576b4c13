/- Which files there are behind an operation; what Get then answers. -/
import Derived.Test.YtfocejmfmnijpaaFApply
namespace Go.Proofs.Ytfocejmfmnijpaa
open Go.RowKit

theorem rising_inj {L : List Fil} (h : risingB L = true) (i j : Nat) (hi : i < L.length) (hj : j < L.length) (e : L[i].name = L[j].name) : i = j := by
  rcases Nat.lt_trichotomy i j with hlt | rfl | hlt
  · have := rising_lt h j i hj hlt
    rw [e, less_irrefl] at this; cases this
  · rfl
  · have := rising_lt h i j hi hlt
    rw [e, less_irrefl] at this; cases this

theorem at_of_mem {L : List Fil} (h : risingB L = true) {n : ByteArray} (j : Nat) (hj : j < L.length) (e : L[j].name = n) : atS L n = j := by
  rcases Nat.lt_trichotomy (atS L n) j with hlt | hlt | hlt
  · have h1 := atS_above h n (atS L n) (by omega) (Nat.le_refl _)
    have h2 := rising_lt h j _ hj hlt
    rw [e] at h2
    rw [h2] at h1; cases h1
  · exact hlt
  · have h1 := atS_below L n j hj hlt
    rw [e, less_irrefl] at h1; cases h1

theorem there_of_mem {L : List Fil} (h : risingB L = true) {x : Fil} (hx : x ∈ L) : thereB L x.name = true ∧ L[atS L x.name]? = some x := by
  obtain ⟨j, hj, rfl⟩ := List.getElem_of_mem hx
  have e := at_of_mem h j hj rfl
  have hg : L[atS L L[j].name]? = some L[j] := by rw [e, List.getElem?_eq_getElem hj]
  refine ⟨?_, hg⟩
  unfold thereB
  rw [hg]
  simp

theorem there_iff {L : List Fil} (h : risingB L = true) (n : ByteArray) : thereB L n = true ↔ ∃ x ∈ L, x.name = n := by
  constructor
  · intro ht
    obtain ⟨hlt, e⟩ := there_get ht
    exact ⟨_, List.getElem_mem hlt, e⟩
  · rintro ⟨x, hx, rfl⟩
    exact (there_of_mem h hx).1

theorem get_mem {L : List Fil} (h : rightB L = true) {x : Fil} (hx : x ∈ L) : getS L x.name = (x.bytes, 0) := by
  obtain ⟨h1, h2⟩ := there_of_mem (right_rising h) hx
  unfold getS
  rw [h, h1, h2]
  rfl
theorem get_none {L : List Fil} (h : rightB L = true) {n : ByteArray} (hn : ∀ x ∈ L, x.name ≠ n) : getS L n = ([], 4) := by
  have ht : thereB L n = false := by
    cases k : thereB L n with
    | false => rfl
    | true => obtain ⟨x, hx, e⟩ := (there_iff (right_rising h) n).1 k; exact absurd e (hn x hx)
  unfold getS
  rw [h, ht]
  rfl

theorem bytesOf_mem {L : List Fil} (h : risingB L = true) {x : Fil} (hx : x ∈ L) : bytesOf L x.name = x.bytes := by
  unfold bytesOf
  rw [(there_of_mem h hx).2]
  rfl

theorem mem_set_iff {L : List Fil} (h : risingB L = true) {n : ByteArray} (ht : thereB L n = true) (b : List Nat) (x : Fil) : x ∈ L.set (atS L n) ⟨n, b⟩ ↔ x = ⟨n, b⟩ ∨ (x ∈ L ∧ x.name ≠ n) := by
  obtain ⟨hlt, e⟩ := there_get ht
  constructor
  · intro hx
    obtain ⟨j, hj, rfl⟩ := List.getElem_of_mem hx
    rw [List.getElem_set]
    split
    · exact .inl rfl
    · rename_i hne
      rw [List.length_set] at hj
      exact .inr ⟨List.getElem_mem hj, fun e2 => hne (at_of_mem h j hj e2)⟩
  · rintro (rfl | ⟨hx, hn⟩)
    · exact List.mem_set hlt _
    · obtain ⟨j, hj, rfl⟩ := List.getElem_of_mem hx
      have hne : atS L n ≠ j := fun e2 => hn (by rw [← e]; simp only [e2])
      exact List.mem_iff_getElem.2 ⟨j, by simpa using hj, by rw [List.getElem_set_ne hne]⟩

theorem mem_put_iff {L : List Fil} (h : risingB L = true) (n : ByteArray) (b : List Nat) (x : Fil) : x ∈ putS L n b ↔ x = ⟨n, b⟩ ∨ (x ∈ L ∧ x.name ≠ n) := by
  unfold putS
  cases ht : thereB L n with
  | true => rw [if_pos rfl]; exact mem_set_iff h ht b x
  | false =>
    rw [if_neg (by simp)]
    have hno : ∀ y ∈ L, y.name ≠ n := fun y hy e => by
      have := (there_iff h n).2 ⟨y, hy, e⟩
      rw [ht] at this; cases this
    rw [List.mem_append, List.mem_cons]
    constructor
    · rintro (hx | rfl | hx)
      · exact .inr ⟨List.mem_of_mem_take hx, hno _ (List.mem_of_mem_take hx)⟩
      · exact .inl rfl
      · exact .inr ⟨List.mem_of_mem_drop hx, hno _ (List.mem_of_mem_drop hx)⟩
    · rintro (rfl | ⟨hx, _⟩)
      · exact .inr (.inl rfl)
      · rw [← List.take_append_drop (atS L n) L, List.mem_append] at hx
        rcases hx with hx | hx
        · exact .inl hx
        · exact .inr (.inr hx)

theorem mem_drop_iff {L : List Fil} (h : risingB L = true) {n : ByteArray} (ht : thereB L n = true) (x : Fil) : x ∈ dropS L n ↔ x ∈ L ∧ x.name ≠ n := by
  obtain ⟨hlt, e⟩ := there_get ht
  unfold dropS
  rw [List.mem_append]
  constructor
  · rintro (hx | hx)
    · obtain ⟨j, hj, rfl⟩ := List.getElem_of_mem hx
      rw [List.length_take] at hj
      rw [List.getElem_take]
      exact ⟨List.getElem_mem _, fun e2 => by have := at_of_mem h j (by omega) e2; omega⟩
    · obtain ⟨j, hj, rfl⟩ := List.getElem_of_mem hx
      rw [List.length_drop] at hj
      rw [List.getElem_drop]
      exact ⟨List.getElem_mem _, fun e2 => by have := at_of_mem h _ (by omega) e2; omega⟩
  · rintro ⟨hx, hn⟩
    obtain ⟨j, hj, rfl⟩ := List.getElem_of_mem hx
    have hne : atS L n ≠ j := fun e2 => hn (by rw [← e]; simp only [e2])
    rcases Nat.lt_or_ge j (atS L n) with hlt2 | hge
    · exact .inl (List.mem_iff_getElem.2 ⟨j, by rw [List.length_take]; omega, by rw [List.getElem_take]⟩)
    · exact .inr (List.mem_iff_getElem.2 ⟨j - (atS L n + 1), by rw [List.length_drop]; omega, by rw [List.getElem_drop]; congr 1; omega⟩)

/-- files that an operation does not name stay as they were. -/
theorem others_stay {L L' : List Fil} {o : OpS} (h : rightB L = true) (he : doE L o = .ok L') {x : Fil} (hx : x ∈ L) (h1 : x.name ≠ o.name) (h2 : o.kind = 3 → x.name ≠ o.new) : x ∈ L' := by
  have hr := right_rising h
  unfold doE at he
  split at he
  · cases he
  · split at he
    · cases he
    · rename_i L2 hk
      split at he
      · cases he
      · cases he
        unfold byKindE at hk
        split at hk
        · unfold putE at hk
          split at hk
          · cases hk
          · cases hk
            exact (mem_put_iff hr _ _ _).2 (.inr ⟨hx, h1⟩)
        · split at hk
          · unfold writeE at hk
            split at hk
            · cases hk
            · rename_i ht
              split at hk
              · cases hk
              · split at hk
                · cases hk
                · cases hk
                  exact (mem_set_iff hr (by simpa using ht) _ _).2 (.inr ⟨hx, h1⟩)
          · split at hk
            · rename_i h3
              unfold renameE at hk
              split at hk
              · cases hk
              · split at hk
                · cases hk
                · rename_i ht
                  cases hk
                  exact (mem_put_iff (dropS_rising _ hr) _ _ _).2 (.inr ⟨(mem_drop_iff hr (by simpa using ht) _).2 ⟨hx, h1⟩, h2 h3⟩)
            · split at hk
              · unfold dropE at hk
                split at hk
                · cases hk
                · rename_i ht
                  cases hk
                  exact (mem_drop_iff hr (by simpa using ht) _).2 ⟨hx, h1⟩
              · cases hk

theorem ok_of {L L' : List Fil} {o : OpS} (he : doE L o = .ok L') : byKindE L o = .ok L' := by
  unfold doE at he
  split at he
  · cases he
  · split at he
    · cases he
    · rename_i L2 hk
      split at he
      · cases he
      · cases he; exact hk

theorem after_put {L L' : List Fil} {o : OpS} (h : rightB L = true) (he : doE L o = .ok L') (hk : o.kind = 1) : getS L' o.name = (o.bytes, 0) := by
  have hr' := do_right h he
  have hb := ok_of he
  unfold byKindE putE at hb
  rw [if_pos hk] at hb
  split at hb
  · cases hb
  · cases hb
    exact get_mem hr' (x := ⟨o.name, o.bytes⟩) ((mem_put_iff (right_rising h) _ _ _).2 (.inl rfl))

theorem overS_mid (old b : List Nat) (t : Nat) (h : t ≤ old.length) : ((overS old t b).drop t).take b.length = b := by
  unfold overS
  rw [List.append_assoc, List.drop_left' (by rw [List.length_take]; omega), List.take_left' rfl]

theorem after_write {L L' : List Fil} {o : OpS} (h : rightB L = true) (he : doE L o = .ok L') (hk : o.kind = 2) : ∃ (t : Nat) (old : List Nat), o.at_ = (t : Int) ∧ t ≤ old.length ∧ t + o.bytes.length ≤ 4096 ∧ old.length ≤ 4096 ∧ getS L' o.name = (overS old t o.bytes, 0) := by
  have hr' := do_right h he
  have hb := ok_of he
  have hbl := bytesOf_le (fair_of h) o.name
  unfold byKindE writeE at hb
  rw [if_neg (by omega), if_pos hk] at hb
  split at hb
  · cases hb
  · rename_i ht
    split at hb
    · cases hb
    · split at hb
      · cases hb
      · cases hb
        refine ⟨o.at_.toNat, bytesOf L o.name, by omega, by omega, by omega, hbl, ?_⟩
        exact get_mem hr' (x := ⟨o.name, overS (bytesOf L o.name) o.at_.toNat o.bytes⟩) ((mem_set_iff (right_rising h) (by simpa using ht) _ _).2 (.inl rfl))

theorem after_name {L L' : List Fil} {o : OpS} (h : rightB L = true) (he : doE L o = .ok L') (hk : o.kind = 3) : ∃ b, getS L o.name = (b, 0) ∧ getS L' o.new = (b, 0) ∧ ((getS L' o.name).2 = 0 ↔ o.name = o.new) := by
  have hr' := do_right h he
  have hr := right_rising h
  have hb := ok_of he
  unfold byKindE renameE at hb
  rw [if_neg (by omega), if_neg (by omega), if_pos hk] at hb
  split at hb
  · cases hb
  · split at hb
    · cases hb
    · rename_i ht
      have ht : thereB L o.name = true := by simpa using ht
      cases hb
      obtain ⟨x, hx, hn⟩ := (there_iff hr _).1 ht
      have hg := get_mem h hx
      have hby := bytesOf_mem hr hx
      rw [hn] at hg hby
      have hnew := get_mem hr' (x := ⟨o.new, bytesOf L o.name⟩) ((mem_put_iff (dropS_rising _ hr) _ _ _).2 (.inl rfl))
      refine ⟨x.bytes, hg, by rw [← hby]; exact hnew, ?_⟩
      constructor
      · intro h0
        by_cases e : o.name = o.new
        · exact e
        · have := get_none hr' (n := o.name) (fun y hy e2 => by
            rcases (mem_put_iff (dropS_rising _ hr) _ _ _).1 hy with rfl | ⟨hy, _⟩
            · exact e e2.symm
            · exact ((mem_drop_iff hr ht _).1 hy).2 e2)
          rw [this] at h0
          simp at h0
      · intro e
        rw [e]
        have : getS (putS (dropS L o.name) o.new (bytesOf L o.name)) o.new = (bytesOf L o.name, 0) := hnew
        rw [← e] at this ⊢
        rw [this]

theorem after_drop {L L' : List Fil} {o : OpS} (h : rightB L = true) (he : doE L o = .ok L') (h1 : o.kind ≠ 1) (h2 : o.kind ≠ 2) (h3 : o.kind ≠ 3) : getS L' o.name = ([], 4) := by
  have hr' := do_right h he
  have hb := ok_of he
  unfold byKindE dropE at hb
  rw [if_neg h1, if_neg h2, if_neg h3] at hb
  split at hb
  · split at hb
    · cases hb
    · rename_i ht
      cases hb
      exact get_none hr' (fun y hy e => ((mem_drop_iff (right_rising h) (by simpa using ht) _).1 hy).2 e)
  · cases hb

theorem apply_one {L : List Fil} {o : OpS} (h : rightB L = true) : applyE L [o] = doE L o := by
  unfold applyE
  rw [h]
  simp only [Bool.true_eq_false, if_false, List.length_cons, List.length_nil]
  rw [if_neg (by omega), foldE]
  split <;> rename_i hd
  · rw [hd]
  · rw [hd]; rfl

end Go.Proofs.Ytfocejmfmnijpaa
