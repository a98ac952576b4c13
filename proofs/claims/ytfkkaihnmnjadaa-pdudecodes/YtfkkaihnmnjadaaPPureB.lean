/- Messages there and back, and what is cut off: pure. -/
import Derived.Test.YtfkkaihnmnjadaaPPure
namespace Go.Proofs.Ytfkkaihnmnjadaa
open Go.RowKit
set_option linter.unusedVariables false

theorem step_opt {l : List Nat} {c : Bool} {f x r : List Nat} {at_ : Nat} {T : List Nat × Nat × Int} {s : Nat × Int} (hs : s = (at_, 0)) (h : l.drop at_ = opt c f ++ r) (ha : at_ ≤ l.length) (ht : c = true → l.drop at_ = f ++ r → ∃ at2, T = (x, at2, 0) ∧ l.drop at2 = r ∧ at2 ≤ l.length) :
    ∃ at2, optT c T s = (opt c x, at2, 0) ∧ l.drop at2 = r ∧ at2 ≤ l.length := by
  subst hs
  cases c with
  | false => exact ⟨at_, rfl, h, ha⟩
  | true => exact ht rfl h
theorem pre_be {l r : List Nat} {at_ n k : Nat} (h : l.drop at_ = be n k ++ r) (ha : at_ ≤ l.length) : ∃ at2, takes l at_ 0 k = (be n k, at2, 0) ∧ l.drop at2 = r ∧ at2 ≤ l.length := by
  have h1 := takes_pre h ha
  rw [be_length] at h1
  exact ⟨_, h1⟩
theorem pre_one {l r : List Nat} {at_ n : Nat} (h : l.drop at_ = [n] ++ r) (ha : at_ ≤ l.length) : ∃ at2, takes l at_ 0 1 = ([n], at2, 0) ∧ l.drop at2 = r ∧ at2 ≤ l.length := ⟨_, takes_pre (m := [n]) h ha⟩
theorem num_opt {c : Bool} {n : Nat} {k : Nat} (hn : n < 256 ^ k) : numN (opt c (be n k)) = if c then n else 0 := by
  cases c with
  | false => rfl
  | true => exact num_le n k hn
theorem okM_is {m : Ms} (h : okM m = true) : fld m.knd ≠ 0 ∧ m.num ≠ 0 ∧ m = cntM m ∧ ((m.nam.size : Int) ≤ 24 ∧ lst (fld m.knd) 1 ≤ (m.nam.size : Int)) ∧ (0 ≤ m.siz ∧ m.siz ≤ 4096) ∧ (0 ≤ m.cod ∧ m.cod ≤ 255) ∧ ((m.bts.length : Int) ≤ 256 ∧ lst (fld m.knd) 4 ≤ (m.bts.length : Int)) ∧ 0 ≤ m.off ∧ m.off ≤ 4096 - (m.bts.length : Int) := by
  unfold okM rightM at h
  simp only [Bool.and_eq_true, decide_eq_true_eq] at h
  obtain ⟨h1, h2, h3, h4, h5, h6, h7, h8⟩ := h
  have a4 := inB_of h4
  have a5 := inB_of h5
  have a6 := inB_of h6
  have a7 := inB_of h7
  have a8 := inB_of h8
  exact ⟨h1, h2, sameM_iff.1 h3, ⟨a4.2, a4.1⟩, a5, a6, ⟨a7.2, a7.1⟩, a8⟩
theorem knd_of {k : Int} (h : fld k ≠ 0) : 1 ≤ k ∧ k ≤ 8 := by
  have := fld_cases k
  omega
/-- its numbers are of their kinds. -/
structure Szn (m : Ms) : Prop where
  num : m.num < 4294967296
  sum : m.sum < 4294967296
theorem enc_reads {m : Ms} (h : okM m = true) (hz : Szn m) (r : List Nat) : rdM (encM m ++ r) = m ∧ rdk (encM m ++ r) = m.knd ∧ ∃ at8 x, rd8 (encM m ++ r) = (x, at8, 0) ∧ (encM m ++ r).drop at8 = r ∧ at8 ≤ (encM m ++ r).length := by
  obtain ⟨h1, h2, h3, h4, h5, h6, h7, h8⟩ := okM_is h
  obtain ⟨hk1, hk2⟩ := knd_of h1
  generalize hl : encM m ++ r = l
  have d0 : l.drop 0 = [m.knd.toNat] ++ (be m.num 4 ++ (opt (hs (fld m.knd) 1) (encName m.nam) ++ (opt (hs (fld m.knd) 2) (be m.siz.toNat 2) ++ (opt (hs (fld m.knd) 4) (be m.off.toNat 2) ++ (opt (hs (fld m.knd) 8) (be m.sum 4) ++ (opt (hs (fld m.knd) 16) [m.cod.toNat] ++ (opt (hs (fld m.knd) 32) (encBytes m.bts) ++ r))))))) := by
    rw [← hl, List.drop_zero, encM]
    simp only [List.append_assoc, List.cons_append, List.nil_append]
  obtain ⟨a1, e1, d1, l1⟩ := pre_one d0 (Nat.zero_le _)
  have ek : rdk l = m.knd := by
    unfold rdk rd1
    rw [e1]
    show ((numN [m.knd.toNat] : Nat) : Int) = _
    rw [num_one]
    omega
  obtain ⟨a2, e2, d2, l2⟩ := pre_be d1 l1
  have e2' : rd2 l = (be m.num 4, a2, 0) := by unfold rd2 rd1; rw [e1]; exact e2
  obtain ⟨a3, e3, d3, l3⟩ := step_opt (T := counts l 1 a2 0) (x := nbytes m.nam) (s := (a2, 0)) rfl d2 l2 (fun _ hd => ⟨_, name_pre hd l2⟩)
  have e3' : rd3 l = (opt (hs (fld m.knd) 1) (nbytes m.nam), a3, 0) := by unfold rd3; rw [e2', ek]; exact e3
  obtain ⟨a4, e4, d4, l4⟩ := step_opt (T := takes l a3 0 2) (x := be m.siz.toNat 2) (s := (a3, 0)) rfl d3 l3 (fun _ hd => pre_be hd l3)
  have e4' : rd4 l = (opt (hs (fld m.knd) 2) (be m.siz.toNat 2), a4, 0) := by unfold rd4; rw [e3', ek]; exact e4
  obtain ⟨a5, e5, d5, l5⟩ := step_opt (T := takes l a4 0 2) (x := be m.off.toNat 2) (s := (a4, 0)) rfl d4 l4 (fun _ hd => pre_be hd l4)
  have e5' : rd5 l = (opt (hs (fld m.knd) 4) (be m.off.toNat 2), a5, 0) := by unfold rd5; rw [e4', ek]; exact e5
  obtain ⟨a6, e6, d6, l6⟩ := step_opt (T := takes l a5 0 4) (x := be m.sum 4) (s := (a5, 0)) rfl d5 l5 (fun _ hd => pre_be hd l5)
  have e6' : rd6 l = (opt (hs (fld m.knd) 8) (be m.sum 4), a6, 0) := by unfold rd6; rw [e5', ek]; exact e6
  obtain ⟨a7, e7, d7, l7⟩ := step_opt (T := takes l a6 0 1) (x := [m.cod.toNat]) (s := (a6, 0)) rfl d6 l6 (fun _ hd => pre_one hd l6)
  have e7' : rd7 l = (opt (hs (fld m.knd) 16) [m.cod.toNat], a7, 0) := by unfold rd7; rw [e6', ek]; exact e7
  obtain ⟨a8, e8, d8, l8⟩ := step_opt (T := counts l 2 a7 0) (x := m.bts) (s := (a7, 0)) rfl d7 l7 (fun _ hd => ⟨_, bytes_pre hd l7 (by omega)⟩)
  have e8' : rd8 l = (opt (hs (fld m.knd) 32) m.bts, a8, 0) := by unfold rd8; rw [e7', ek]; exact e8
  refine ⟨?_, ek, a8, _, e8', d8, l8⟩
  unfold rdM
  rw [ek, e2', e3', e4', e5', e6', e7', e8']
  simp only
  rw [num_be4 hz.num, num_opt (by show _ < 65536; omega), num_opt (by show _ < 65536; omega), num_opt (by show _ < 4294967296; exact hz.sum)]
  have c7 : numN (opt (hs (fld m.knd) 16) [m.cod.toNat]) = if hs (fld m.knd) 16 then m.cod.toNat else 0 := by
    cases hs (fld m.knd) 16 with
    | false => rfl
    | true => exact num_one _
  have c3 : nameOf (opt (hs (fld m.knd) 1) (nbytes m.nam)) = if hs (fld m.knd) 1 then m.nam else ⟨#[]⟩ := by
    cases hs (fld m.knd) 1 with
    | false => rfl
    | true => exact nameOf_nbytes _
  rw [c7, c3]
  refine Eq.trans ?_ h3.symm
  unfold cntM
  congr 1
  · cases hs (fld m.knd) 2 with
    | false => rfl
    | true => show ((m.siz.toNat : Nat) : Int) = m.siz; omega
  · cases hs (fld m.knd) 4 with
    | false => rfl
    | true => show ((m.off.toNat : Nat) : Int) = m.off; omega
  · cases hs (fld m.knd) 16 with
    | false => rfl
    | true => show ((m.cod.toNat : Nat) : Int) = m.cod; omega
theorem enc_head {m : Ms} (h : okM m = true) : 0 < (encM m).length ∧ (((encM m).getD 0 0 : Nat) : Int) = m.knd := by
  obtain ⟨h1, _⟩ := okM_is h
  have := knd_of h1
  refine ⟨by rw [encM]; simp, ?_⟩
  show ((m.knd.toNat : Nat) : Int) = m.knd
  omega
/-- there and back. -/
theorem enc_dec {m : Ms} (h : okM m = true) (hz : Szn m) : decM (encM m) = (m, 0) := by
  obtain ⟨e1, _, a8, x, e8, d8, l8⟩ := enc_reads h hz []
  rw [List.append_nil] at e1 e8 d8 l8
  obtain ⟨h0, hh⟩ := enc_head h
  have h1 := (okM_is h).1
  have hd := congrArg List.length d8
  rw [List.length_drop, List.length_nil] at hd
  unfold decM
  rw [if_neg (fun k => h1 (by rw [← hh]; exact k.2)), e8, if_neg (by simp), e1, if_neg (by rw [h]; simp; omega)]
/-- a beginning is read as the whole is, or comes to its end. -/
theorem takes_part {l : List Nat} {k at_ n : Nat} {er : Int} : takes (l.take k) at_ er n = takes l at_ er n ∨ (takes (l.take k) at_ er n).2.2 = 7 := by
  by_cases he : (er != 0) = true
  · rw [takes_err he, takes_err he]; exact .inl rfl
  · obtain rfl := er_zero he
    by_cases h : at_ + n ≤ (l.take k).length
    · have h2 := h
      rw [List.length_take] at h2
      rw [takes_ok h, takes_ok (by omega)]
      refine .inl ?_
      rw [List.drop_take, List.take_take, Nat.min_eq_left (by omega)]
    · rw [takes_short h]; exact .inr rfl
theorem takes_seven {l : List Nat} {at_ n : Nat} : (takes l at_ 7 n).2.2 = 7 := by rw [takes_err (by decide)]
theorem counts_seven {l : List Nat} {k at_ : Nat} : (counts l k at_ 7).2.2 = 7 := by unfold counts; rw [takes_seven]; exact takes_seven
theorem counts_part {l : List Nat} {k j at_ : Nat} {er : Int} : counts (l.take k) j at_ er = counts l j at_ er ∨ (counts (l.take k) j at_ er).2.2 = 7 := by
  unfold counts
  rcases takes_part (l := l) (k := k) (at_ := at_) (n := j) (er := er) with h | h
  · rw [h]; exact takes_part
  · rw [h]; exact .inr takes_seven
theorem optT_part {c : Bool} {l l' : List Nat} {f g : Nat → Int → List Nat × Nat × Int} {s s' : List Nat × Nat × Int} (h : s' = s ∨ s'.2.2 = 7) (h7 : ∀ a, (g a 7).2.2 = 7) (hp : ∀ a e, g a e = f a e ∨ (g a e).2.2 = 7) : optT c (g s'.2.1 s'.2.2) s'.2 = optT c (f s.2.1 s.2.2) s.2 ∨ (optT c (g s'.2.1 s'.2.2) s'.2).2.2 = 7 := by
  rcases h with rfl | h
  · cases c with
    | false => exact .inl rfl
    | true => exact hp _ _
  · cases c with
    | false => exact .inr h
    | true => refine .inr ?_; show (g s'.2.1 s'.2.2).2.2 = 7; rw [h]; exact h7 _
theorem rd8_part {l : List Nat} {k : Nat} (hk : rdk (l.take k) = rdk l) : rd8 (l.take k) = rd8 l ∨ (rd8 (l.take k)).2.2 = 7 := by
  have h1 : rd1 (l.take k) = rd1 l ∨ (rd1 (l.take k)).2.2 = 7 := takes_part
  have h2 : rd2 (l.take k) = rd2 l ∨ (rd2 (l.take k)).2.2 = 7 := by
    unfold rd2
    rcases h1 with h | h
    · rw [h]; exact takes_part
    · rw [h]; exact .inr takes_seven
  have h3 : rd3 (l.take k) = rd3 l ∨ (rd3 (l.take k)).2.2 = 7 := by
    unfold rd3; rw [hk]
    exact optT_part (l := l) (l' := l) (g := fun a e => counts (l.take k) 1 a e) (f := fun a e => counts l 1 a e) h2 (fun _ => counts_seven) (fun _ _ => counts_part)
  have h4 : rd4 (l.take k) = rd4 l ∨ (rd4 (l.take k)).2.2 = 7 := by
    unfold rd4; rw [hk]
    exact optT_part (l := l) (l' := l) (g := fun a e => takes (l.take k) a e 2) (f := fun a e => takes l a e 2) h3 (fun _ => takes_seven) (fun _ _ => takes_part)
  have h5 : rd5 (l.take k) = rd5 l ∨ (rd5 (l.take k)).2.2 = 7 := by
    unfold rd5; rw [hk]
    exact optT_part (l := l) (l' := l) (g := fun a e => takes (l.take k) a e 2) (f := fun a e => takes l a e 2) h4 (fun _ => takes_seven) (fun _ _ => takes_part)
  have h6 : rd6 (l.take k) = rd6 l ∨ (rd6 (l.take k)).2.2 = 7 := by
    unfold rd6; rw [hk]
    exact optT_part (l := l) (l' := l) (g := fun a e => takes (l.take k) a e 4) (f := fun a e => takes l a e 4) h5 (fun _ => takes_seven) (fun _ _ => takes_part)
  have h7 : rd7 (l.take k) = rd7 l ∨ (rd7 (l.take k)).2.2 = 7 := by
    unfold rd7; rw [hk]
    exact optT_part (l := l) (l' := l) (g := fun a e => takes (l.take k) a e 1) (f := fun a e => takes l a e 1) h6 (fun _ => takes_seven) (fun _ _ => takes_part)
  unfold rd8; rw [hk]
  exact optT_part (l := l) (l' := l) (g := fun a e => counts (l.take k) 2 a e) (f := fun a e => counts l 2 a e) h7 (fun _ => counts_seven) (fun _ _ => counts_part)
theorem optT_le {c : Bool} {l : List Nat} {t : List Nat × Nat × Int} {s : List Nat × Nat × Int} (h : s.2.1 ≤ l.length) (ht : t.2.1 ≤ l.length) : (optT c t s.2).2.1 ≤ l.length := by
  cases c with
  | false => exact h
  | true => exact ht
theorem counts_le {l : List Nat} {k at_ : Nat} {er : Int} (h : at_ ≤ l.length) : (counts l k at_ er).2.1 ≤ l.length := takes_le (takes_le h)
theorem rd8_le (l : List Nat) : (rd8 l).2.1 ≤ l.length := by
  have h1 : (rd1 l).2.1 ≤ l.length := takes_le (Nat.zero_le _)
  have h2 : (rd2 l).2.1 ≤ l.length := takes_le h1
  have h3 : (rd3 l).2.1 ≤ l.length := optT_le h2 (counts_le h2)
  have h4 : (rd4 l).2.1 ≤ l.length := optT_le h3 (takes_le h3)
  have h5 : (rd5 l).2.1 ≤ l.length := optT_le h4 (takes_le h4)
  have h6 : (rd6 l).2.1 ≤ l.length := optT_le h5 (takes_le h5)
  have h7 : (rd7 l).2.1 ≤ l.length := optT_le h6 (takes_le h6)
  exact optT_le h7 (counts_le h7)
/-- of each beginning it is too short. -/
theorem enc_cut {m : Ms} (h : okM m = true) (hz : Szn m) (k : Nat) (hk : k < (encM m).length) : decM ((encM m).take k) = (zeroM, 7) := by
  obtain ⟨e1, ek, a8, x, e8, d8, l8⟩ := enc_reads h hz []
  rw [List.append_nil] at e1 ek e8 d8 l8
  obtain ⟨h0, hh⟩ := enc_head h
  have h1 := (okM_is h).1
  have hd := congrArg List.length d8
  rw [List.length_drop, List.length_nil] at hd
  rcases Nat.eq_zero_or_pos k with rfl | hk0
  · rw [List.take_zero]; rfl
  · generalize hl : encM m = l at *
    obtain ⟨y, t, rfl⟩ : ∃ y t, l = y :: t := by
      cases l with
      | nil => simp at h0
      | cons y t => exact ⟨y, t, rfl⟩
    obtain ⟨j, rfl⟩ : ∃ j, k = j + 1 := ⟨k - 1, by omega⟩
    have hr : rdk ((y :: t).take (j + 1)) = rdk (y :: t) := by
      unfold rdk rd1
      rw [List.take_succ_cons, takes_ok (by simp), takes_ok (by simp)]
      rfl
    have h7 : (rd8 ((y :: t).take (j + 1))).2.2 = 7 := by
      rcases rd8_part hr with he | he
      · exfalso
        have h9 := rd8_le ((y :: t).take (j + 1))
        rw [he, e8, List.length_take] at h9
        simp only at h9
        omega
      · exact he
    unfold decM
    rw [if_neg (by rw [List.take_succ_cons]; intro k2; exact h1 (by rw [← hh]; exact k2.2)), h7]
    rfl
theorem enc_len {m : Ms} (h : okM m = true) : 5 ≤ (encM m).length ∧ (encM m).length ≤ 300 := by
  obtain ⟨h1, h2, h3, h4, h5, h6, h7, h8⟩ := okM_is h
  have c : ∀ (c : Bool) (l : List Nat), (opt c l).length ≤ l.length := fun c l => by cases c <;> simp [opt]
  have n1 := c (hs (fld m.knd) 1) (encName m.nam)
  have n2 := c (hs (fld m.knd) 2) (be m.siz.toNat 2)
  have n3 := c (hs (fld m.knd) 4) (be m.off.toNat 2)
  have n4 := c (hs (fld m.knd) 8) (be m.sum 4)
  have n5 := c (hs (fld m.knd) 16) [m.cod.toNat]
  have n6 := c (hs (fld m.knd) 32) (encBytes m.bts)
  have z1 : (encName m.nam).length = m.nam.size + 1 := by simp [encName, nbytes_length]
  have z6 : (encBytes m.bts).length = m.bts.length + 2 := by simp [encBytes, be_length]; omega
  rw [z1] at n1
  rw [be_length] at n2 n3 n4
  rw [z6] at n6
  simp only [List.length_singleton] at n5
  rw [encM]
  simp only [List.length_append, List.length_cons, be_length]
  omega
end Go.Proofs.Ytfkkaihnmnjadaa
