/- Files and operations and their bytes: what is encoded decodes to the same, and a part of it does not. -/
import Derived.Test.YtfocejmfmnijpaaDPure
import Derived.Test.YtfocejmfmnijpaaDDecode
namespace Go.Proofs.Ytfocejmfmnijpaa
open Go.RowKit

theorem rOp_pre {l : List Nat} {at_ : Nat} {o : OpS} {r : List Nat} (hs : sayB o = true) (h : l.drop at_ = encOp o ++ r) (ha : at_ ≤ l.length) : ∃ at2, rOp l at_ 0 = (o, at2, 0) ∧ l.drop at2 = r ∧ at2 ≤ l.length := by
  obtain ⟨hn, h4, hk⟩ := say_is hs
  obtain ⟨t1, t2, t3⟩ := takes_pre (m := [o.kind.toNat]) (r := encName o.name ++ (encTail o ++ r)) (by rw [h, encOp]; simp) ha
  simp only [List.length_singleton] at t1 t2 t3
  obtain ⟨n1, n2, n3⟩ := name_pre t2 t3
  have hnum : numN [o.kind.toNat] = o.kind.toNat := by show 0 * 256 + _ = _; omega
  obtain ⟨k, n, m, t, b⟩ := o
  simp only at *
  unfold rOp
  rw [t1]
  simp only
  rw [n1, hnum]
  simp only
  rw [nameOf_nbytes]
  rcases hk with ⟨rfl, h5, rfl⟩ | ⟨rfl, h5, h6, h7⟩ | ⟨rfl, h5, rfl, h7⟩ | ⟨rfl, h5, rfl, h7⟩
  · obtain ⟨c1, c2, c3⟩ := bytes_pre (l := l) (b := b) (r := r) (by rw [n2]; rfl) n3 (by omega)
    rw [if_pos (by decide), c1, empty_is h5]
    exact ⟨_, rfl, c2, c3⟩
  · obtain ⟨u1, u2, u3⟩ := takes_pre (l := l) (m := be t.toNat 2) (r := encBytes b ++ r) (by rw [n2]; simp [encTail]) n3
    rw [be_length] at u1 u2 u3
    obtain ⟨c1, c2, c3⟩ := bytes_pre u2 u3 (by omega)
    rw [if_neg (by decide), if_pos (by decide), u1]
    simp only
    rw [c1, empty_is h5, num_be2 (by omega)]
    refine ⟨_, ?_, c2, c3⟩
    rw [Int.toNat_of_nonneg h6]
  · obtain rfl : b = [] := List.eq_nil_of_length_eq_zero h7
    obtain ⟨c1, c2, c3⟩ := name_pre (l := l) (s := m) (r := r) (by rw [n2]; simp [encTail]) n3
    rw [if_neg (by decide), if_neg (by decide), if_pos (by decide), c1]
    simp only
    rw [nameOf_nbytes]
    exact ⟨_, rfl, c2, c3⟩
  · obtain rfl : b = [] := List.eq_nil_of_length_eq_zero h7
    rw [if_neg (by decide), if_neg (by decide), if_neg (by decide), empty_is h5]
    refine ⟨_, rfl, ?_, n3⟩
    rw [n2]
    simp [encTail]
theorem rOps_pre {l : List Nat} {r : List Nat} : ∀ (m : List OpS) (at_ : Nat) (acc : List OpS), (∀ x ∈ m, sayB x = true) → l.drop at_ = m.flatMap encOp ++ r → at_ ≤ l.length → ∃ at2, rOps l m.length at_ 0 acc = some (acc ++ m, at2, 0) ∧ l.drop at2 = r ∧ at2 ≤ l.length
  | [], at_, acc, _, h, ha => ⟨at_, by simp [rOps], by simpa using h, ha⟩
  | o :: m, at_, acc, hs, h, ha => by
    obtain ⟨a1, e1, d1, l1⟩ := rOp_pre (r := m.flatMap encOp ++ r) (hs o List.mem_cons_self) (by rw [h, List.flatMap_cons, List.append_assoc]) ha
    obtain ⟨a2, e2, d2, l2⟩ := rOps_pre m a1 (acc ++ [o]) (fun x hx => hs x (List.mem_cons_of_mem _ hx)) d1 l1
    refine ⟨a2, ?_, d2, l2⟩
    rw [List.length_cons, rOps, e1, if_pos (hs o List.mem_cons_self)]
    simp only
    rw [e2, List.append_assoc]
    rfl
/-- what is encoded decodes to the same. -/
theorem decO_of {m : List OpS} (hs : ∀ x ∈ m, sayB x = true) (h64 : m.length ≤ 64) : decO (encOps m) = some m := by
  obtain ⟨t1, t2, t3⟩ := takes_pre (l := encOps m) (at_ := 0) (m := be m.length 2) (r := m.flatMap encOp) rfl (Nat.zero_le _)
  rw [be_length] at t1 t2 t3
  obtain ⟨a2, e2, d2, l2⟩ := rOps_pre (r := []) m _ [] hs (by rw [t2, List.append_nil]) t3
  unfold decO
  rw [t1]
  simp only
  rw [num_be2 (by omega), if_neg (by omega), e2]
  have := List.drop_eq_nil_iff.1 d2
  simp only [finO]
  rw [if_neg (by simp; omega)]
  rfl

theorem rFiles_pre {l : List Nat} {r : List Nat} : ∀ (L : List Fil) (at_ : Nat) (acc : List Fil), (∀ x ∈ L, x.bytes.length < 65536) → l.drop at_ = L.flatMap encFile ++ r → at_ ≤ l.length → ∃ at2, rFiles l L.length at_ 0 acc = (acc ++ L, at2, 0) ∧ l.drop at2 = r ∧ at2 ≤ l.length
  | [], at_, acc, _, h, ha => ⟨at_, by simp [rFiles], by simpa using h, ha⟩
  | x :: L, at_, acc, hb, h, ha => by
    obtain ⟨e1, d1, l1⟩ := name_pre (s := x.name) (r := encBytes x.bytes ++ (L.flatMap encFile ++ r)) (by rw [h, List.flatMap_cons, encFile]; simp) ha
    obtain ⟨e2, d2, l2⟩ := bytes_pre d1 l1 (hb x List.mem_cons_self)
    obtain ⟨a3, e3, d3, l3⟩ := rFiles_pre L _ (acc ++ [x]) (fun y hy => hb y (List.mem_cons_of_mem _ hy)) d2 l2
    refine ⟨a3, ?_, d3, l3⟩
    rw [List.length_cons, rFiles, if_neg (by simp), e1]
    simp only
    rw [e2]
    simp only
    rw [nameOf_nbytes, e3, List.append_assoc]
    rfl
theorem readAll_of {L : List Fil} (h1 : L.length < 65536) (h2 : ∀ x ∈ L, x.bytes.length < 65536) : ∃ at2, readAll (encFiles L) = (L, at2, 0) ∧ (encFiles L).length ≤ at2 := by
  obtain ⟨t1, t2, t3⟩ := takes_pre (l := encFiles L) (at_ := 0) (m := be L.length 2) (r := L.flatMap encFile) rfl (Nat.zero_le _)
  rw [be_length] at t1 t2 t3
  obtain ⟨a2, e2, d2, l2⟩ := rFiles_pre (r := []) L _ [] h2 (by rw [t2, List.append_nil]) t3
  refine ⟨a2, ?_, List.drop_eq_nil_iff.1 d2⟩
  unfold readAll
  rw [t1]
  simp only
  rw [num_be2 h1, e2]
  rfl

/-- of a part of the bytes as much is taken as of all, or there is too little. -/
theorem takes_part (l : List Nat) (k at_ n : Nat) (er : Int) : takes (l.take k) at_ er n = takes l at_ er n ∨ (takes (l.take k) at_ er n).2.2 = 7 := by
  by_cases he : (er != 0) = true
  · left; rw [takes_err he, takes_err he]
  · obtain rfl : er = 0 := by simpa using he
    by_cases hn : at_ + n ≤ (l.take k).length
    · left
      rw [takes_ok hn]
      rw [List.length_take] at hn
      rw [takes_ok (by omega), List.drop_take, List.take_take, Nat.min_eq_left (by omega)]
    · right; rw [takes_short hn]
theorem counts_part (l : List Nat) (k q at_ : Nat) (er : Int) : counts (l.take k) q at_ er = counts l q at_ er ∨ (counts (l.take k) q at_ er).2.2 = 7 := by
  unfold counts
  rcases takes_part l k at_ q er with h | h
  · rw [h]; exact takes_part l k _ _ _
  · right; rw [h, takes_err (by decide)]
theorem counts_seven (l : List Nat) (q at_ : Nat) : counts l q at_ 7 = ([], at_, 7) := by
  have h := takes_err (l := l) (at_ := at_) (er := 7) (n := q) (by decide)
  unfold counts
  rw [h]
  simp only
  exact takes_err (er := 7) (by decide)
theorem rFiles_part (l : List Nat) (k : Nat) : ∀ (n at_ : Nat) (er : Int) (acc : List Fil), rFiles (l.take k) n at_ er acc = rFiles l n at_ er acc ∨ (rFiles (l.take k) n at_ er acc).2.2 = 7
  | 0, _, _, _ => .inl rfl
  | n + 1, at_, er, acc => by
    rw [rFiles, rFiles]
    by_cases he : (er != 0) = true
    · left; rw [if_pos he, if_pos he]
    · rw [if_neg he, if_neg he]
      rcases counts_part l k 1 at_ er with h | h
      · rw [h]
        rcases counts_part l k 2 (counts l 1 at_ er).2.1 (counts l 1 at_ er).2.2 with h2 | h2
        · rw [h2]; exact rFiles_part l k n _ _ _
        · right; rw [h2, rFiles_err (by decide)]
      · right
        have h2 : (counts (l.take k) 2 (counts (l.take k) 1 at_ er).2.1 (counts (l.take k) 1 at_ er).2.2).2.2 = 7 := by
          rcases counts_part l k 2 (counts (l.take k) 1 at_ er).2.1 (counts (l.take k) 1 at_ er).2.2 with h3 | h3
          · rw [h3, h, counts_seven]
          · exact h3
        rw [h2, rFiles_err (by decide)]
theorem takes_at {l : List Nat} {at_ n : Nat} {er : Int} (h : at_ ≤ l.length) : (takes l at_ er n).2.1 ≤ l.length := by
  unfold takes
  split
  · exact h
  · split
    · assumption
    · exact h
theorem counts_at {l : List Nat} {at_ q : Nat} {er : Int} (h : at_ ≤ l.length) : (counts l q at_ er).2.1 ≤ l.length := takes_at (takes_at h)
theorem rFiles_at (l : List Nat) : ∀ (n at_ : Nat) (er : Int) (acc : List Fil), at_ ≤ l.length → (rFiles l n at_ er acc).2.1 ≤ l.length
  | 0, _, _, _, h => h
  | n + 1, at_, er, acc, h => by
    rw [rFiles]
    split
    · exact h
    · exact rFiles_at l n _ _ _ (counts_at (counts_at h))
theorem readAll_part (l : List Nat) (k : Nat) : readAll (l.take k) = readAll l ∨ (readAll (l.take k)).2.2 = 7 := by
  unfold readAll
  rcases takes_part l k 0 2 0 with h | h
  · rw [h]; exact rFiles_part l k _ _ _ _
  · right; rw [h, rFiles_err (by decide)]
/-- a part of what is encoded is too short. -/
theorem decG_part {L : List Fil} (h1 : L.length < 65536) (h2 : ∀ x ∈ L, x.bytes.length < 65536) {k : Nat} (hk : k < (encFiles L).length) : decG ((encFiles L).take k) = .error 7 := by
  obtain ⟨a2, e2, l2⟩ := readAll_of h1 h2
  rcases readAll_part (encFiles L) k with h | h
  · exfalso
    have h3 : (readAll ((encFiles L).take k)).2.1 ≤ ((encFiles L).take k).length := rFiles_at _ _ _ _ _ (takes_at (Nat.zero_le _))
    rw [h, e2, List.length_take] at h3
    simp only at h3
    omega
  · unfold decG
    rw [h, if_pos (by decide)]
theorem decG_of {L : List Fil} (h1 : L.length < 65536) (h2 : ∀ x ∈ L, x.bytes.length < 65536) (hr : rightB L = true) : decG (encFiles L) = .ok L := by
  obtain ⟨a2, e2, l2⟩ := readAll_of h1 h2
  unfold decG
  rw [e2]
  simp only
  rw [if_neg (by decide), if_neg (by rw [hr]; simp; omega)]
end Go.Proofs.Ytfocejmfmnijpaa
