/- What operations make of files: the names rise, each file may be. -/
import Derived.Test.YtfocejmfmnijpaaFOps
namespace Go.Proofs.Ytfocejmfmnijpaa
open Go.RowKit

theorem rising_pw (L : List Fil) : risingB L = true ↔ L.Pairwise (fun x y => lessB x.name y.name = true) := by
  rw [List.pairwise_iff_getElem]
  constructor
  · intro h i j hi hj hij
    exact rising_lt h j i hj hij
  · intro h
    rw [rising_iff]
    intro i hi
    exact h i (i + 1) (by omega) hi (by omega)

theorem rising_congr {L M : List Fil} (h : L.map Fil.name = M.map Fil.name) : risingB L = risingB M := by
  have hl : L.length = M.length := by simpa using congrArg List.length h
  have hg : ∀ i (h1 : i < L.length) (h2 : i < M.length), L[i].name = M[i].name := fun i h1 h2 => by
    have := congrArg (fun l => l[i]?) h
    simpa [h1, h2] using this
  rw [Bool.eq_iff_iff, rising_iff, rising_iff]
  constructor
  · intro hr i hi
    rw [← hg i (by omega) (by omega), ← hg (i + 1) (by omega) hi]
    exact hr i (by omega)
  · intro hr i hi
    rw [hg i (by omega) (by omega), hg (i + 1) hi (by omega)]
    exact hr i (by omega)

theorem set_names {L : List Fil} {n : ByteArray} (ht : thereB L n = true) (b : List Nat) : (L.set (atS L n) ⟨n, b⟩).map Fil.name = L.map Fil.name := by
  obtain ⟨hlt, hnm⟩ := there_get ht
  rw [List.map_set]
  apply List.ext_getElem (by simp)
  intro i h1 h2
  rw [List.getElem_set]
  split
  · rename_i e
    subst e
    rw [List.getElem_map]
    exact hnm.symm
  · rfl

/-- what stands behind the place of a name that is not there is greater. -/
theorem above_less {L : List Fil} {n : ByteArray} (h : risingB L = true) (ht : thereB L n = false) (i : Nat) (hi : i < L.length) (hge : atS L n ≤ i) : lessB n L[i].name = true := by
  have hlt : atS L n < L.length := by omega
  have h0 : lessB n L[atS L n].name = true := by
    cases k : lessB n L[atS L n].name with
    | true => rfl
    | false =>
      have e := less_total (atS_at L n hlt) k
      rw [there_pos hlt, decide_eq_false_iff_not, cmp_zero] at ht
      exact absurd e ht
  rcases Nat.lt_or_ge (atS L n) i with hlt2 | hge2
  · exact less_trans h0 (rising_lt h i _ hi hlt2)
  · obtain rfl : i = atS L n := by omega
    exact h0

theorem putS_rising {L : List Fil} (n : ByteArray) (b : List Nat) (h : risingB L = true) : risingB (putS L n b) = true := by
  unfold putS
  cases ht : thereB L n with
  | true =>
    rw [if_pos rfl, rising_congr (set_names ht b)]
    exact h
  | false =>
    rw [if_neg (by simp), rising_pw]
    have hp := (rising_pw L).1 h
    have hle := atS_le L n
    rw [← List.take_append_drop (atS L n) L, List.pairwise_append] at hp
    obtain ⟨h1, h2, h3⟩ := hp
    rw [List.pairwise_append]
    refine ⟨h1, List.pairwise_cons.2 ⟨fun y hy => ?_, h2⟩, fun x hx y hy => ?_⟩
    · obtain ⟨j, hj, rfl⟩ := List.getElem_of_mem hy
      rw [List.getElem_drop]
      exact above_less h ht _ (by simp at hj; omega) (by omega)
    · obtain ⟨j, hj, rfl⟩ := List.getElem_of_mem hx
      rw [List.length_take] at hj
      have hx' : lessB (L.take (atS L n))[j].name n = true := by
        rw [List.getElem_take]
        exact atS_below L n j (by omega) (by omega)
      rcases List.mem_cons.1 hy with rfl | hy
      · exact hx'
      · exact h3 _ (List.getElem_mem _) y hy

theorem mem_putS {L : List Fil} {n : ByteArray} {b : List Nat} {x : Fil} (h : x ∈ putS L n b) : x ∈ L ∨ x = ⟨n, b⟩ := by
  unfold putS at h
  split at h
  · exact List.mem_or_eq_of_mem_set h
  · rcases List.mem_append.1 h with h | h
    · exact .inl (List.mem_of_mem_take h)
    · rcases List.mem_cons.1 h with h | h
      · exact .inr h
      · exact .inl (List.mem_of_mem_drop h)
theorem putS_length (L : List Fil) (n : ByteArray) (b : List Nat) : (putS L n b).length ≤ L.length + 1 := by
  have hle := atS_le L n
  unfold putS
  split
  · simp
  · simp; omega
theorem mem_dropS {L : List Fil} {n : ByteArray} {x : Fil} (h : x ∈ dropS L n) : x ∈ L := by
  rcases List.mem_append.1 h with h | h
  · exact List.mem_of_mem_take h
  · exact List.mem_of_mem_drop h

/-- An operation. -/
structure OpS where
  kind : Int
  name : ByteArray
  new : ByteArray
  at_ : Int
  bytes : List Nat

def byKindE (L : List Fil) (o : OpS) : Except Int (List Fil) :=
  if o.kind = 1 then putE L o.name o.bytes else if o.kind = 2 then writeE L o.name o.at_ o.bytes else if o.kind = 3 then renameE L o.name o.new else if o.kind = 4 then dropE L o.name else .error 2
def doE (L : List Fil) (o : OpS) : Except Int (List Fil) :=
  if nameB o.name = false then .error 2 else match byKindE L o with
    | .error e => .error e
    | .ok L' => if overB L' then .error 6 else .ok L'

/-- Files that may be, but for how much they are. -/
def Fair (L : List Fil) : Prop := risingB L = true ∧ ∀ x ∈ L, fileB x = true
theorem fair_of {L : List Fil} (h : rightB L = true) : Fair L := ⟨right_rising h, right_file h⟩
theorem right_of {L : List Fil} (h : Fair L) (ho : overB L = false) : rightB L = true := by
  rw [right_all ho h.1]
  exact List.all_eq_true.2 h.2

theorem Fair.putS {L : List Fil} (h : Fair L) {n : ByteArray} {b : List Nat} (hn : nameB n = true) (hb : b.length ≤ 4096) : Fair (putS L n b) :=
  ⟨putS_rising n b h.1, fun x hx => (mem_putS hx).elim (h.2 x) (fun e => e ▸ file_ok hn hb)⟩
theorem Fair.dropS {L : List Fil} (h : Fair L) (n : ByteArray) : Fair (dropS L n) := ⟨dropS_rising n h.1, fun x hx => h.2 x (mem_dropS hx)⟩
theorem fair_bytes {L : List Fil} (h : Fair L) : ∀ x ∈ L, x.bytes.length ≤ 4096 := by
  intro x hx
  have := h.2 x hx
  simp [fileB] at this
  exact this.2
theorem fair_name {L : List Fil} (h : Fair L) : ∀ x ∈ L, nameB x.name = true := by
  intro x hx
  have := h.2 x hx
  simp [fileB] at this
  exact this.1
theorem bytesOf_le {L : List Fil} (h : Fair L) (n : ByteArray) : (bytesOf L n).length ≤ 4096 := by
  unfold bytesOf
  cases hx : L[atS L n]? with
  | none => simp
  | some x =>
    simp
    exact fair_bytes h x (List.mem_of_getElem? hx)

theorem byKind_fair {L L' : List Fil} {o : OpS} (h : Fair L) (hn : nameB o.name = true) (he : byKindE L o = .ok L') : Fair L' ∧ L'.length ≤ L.length + 1 := by
  unfold byKindE at he
  split at he
  · unfold putE at he
    split at he
    · cases he
    · cases he
      exact ⟨h.putS hn (by omega), putS_length _ _ _⟩
  · split at he
    · unfold writeE at he
      split at he
      · cases he
      · rename_i ht
        have ht : thereB L o.name = true := by simpa using ht
        split at he
        · cases he
        · split at he
          · cases he
          · cases he
            have hb := bytesOf_le h o.name
            refine ⟨⟨?_, fun x hx => ?_⟩, by simp⟩
            · rw [rising_congr (set_names ht _)]; exact h.1
            · rcases List.mem_or_eq_of_mem_set hx with hx | rfl
              · exact h.2 x hx
              · exact file_ok hn (by rw [overS_length _ _ _ (by omega)]; omega)
    · split at he
      · unfold renameE at he
        split at he
        · cases he
        · rename_i hm
          split at he
          · cases he
          · cases he
            refine ⟨(h.dropS _).putS (by simpa using hm) (bytesOf_le h _), ?_⟩
            have h1 := putS_length (dropS L o.name) o.new (bytesOf L o.name)
            have h2 : (dropS L o.name).length ≤ L.length := by unfold dropS; simp; omega
            omega
      · split at he
        · unfold dropE at he
          split at he
          · cases he
          · cases he
            refine ⟨h.dropS _, ?_⟩
            unfold dropS
            simp
            omega
        · cases he

theorem byKind_err {L : List Fil} {o : OpS} {e : Int} (he : byKindE L o = .error e) : e = 2 ∨ e = 3 ∨ e = 4 := by
  unfold byKindE putE writeE renameE dropE at he
  repeat' (split at he)
  all_goals (first | (cases he; done) | (cases he; simp))

theorem do_right {L L' : List Fil} {o : OpS} (h : rightB L = true) (he : doE L o = .ok L') : rightB L' = true := by
  unfold doE at he
  split at he
  · cases he
  · rename_i hn
    split at he
    · cases he
    · rename_i hk
      split at he
      · cases he
      · rename_i ho
        cases he
        exact right_of (byKind_fair (fair_of h) (by simpa using hn) hk).1 (by simpa using ho)

theorem cost_bound {L : List Fil} (h : ∀ x ∈ L, fileB x = true) : costS L ≤ L.length * 4120 := by
  induction L with
  | nil => simp [costS]
  | cons x r ih =>
    have hx := h x List.mem_cons_self
    simp [fileB, nameB] at hx
    have := ih (fun y hy => h y (List.mem_cons_of_mem _ hy))
    simp only [costS, List.map_cons, List.sum_cons, List.length_cons] at this ⊢
    omega

end Go.Proofs.Ytfocejmfmnijpaa
