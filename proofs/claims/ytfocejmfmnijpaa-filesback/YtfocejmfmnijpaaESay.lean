/- Which operations have bytes: the walks of sayable and of the reference's own RightOp. -/
import Derived.Test.YtfocejmfmnijpaaFDo
import Derived.Test.YtfocejmfmnijpaaFRefs
namespace Go.Proofs.Ytfocejmfmnijpaa
open Go.RowKit

/-- what is asked besides the name and the length, kind by kind. -/
def sayK (k : Int) (m : ByteArray) (t : Int) (n : Nat) : Bool :=
  if k = 1 then decide (m.size = 0) && decide (t = 0) else if k = 2 then decide (m.size = 0) && decide (0 ≤ t ∧ t ≤ 4096) else if k = 3 then nameB m && decide (t = 0) && decide (n = 0) else if k = 4 then decide (m.size = 0) && decide (t = 0) && decide (n = 0) else false
/-- May an operation be encoded? -/
def sayB (o : OpS) : Bool := nameB o.name && decide (o.bytes.length ≤ 4096) && sayK o.kind o.new o.at_ o.bytes.length

theorem len0 (b : List Nat) : ((b.length : Int) == 0) = decide (b.length = 0) := by
  by_cases h : b.length = 0
  · simp [h]
  · rw [decide_eq_false h, beq_eq_false_iff_ne]; omega
theorem empty_is {s : ByteArray} (h : s.size = 0) : s = ⟨#[]⟩ := ByteArray.ext (Array.eq_empty_of_size_eq_zero h)
theorem empty_not {s : ByteArray} (h : ¬ s.size = 0) : ¬ s.toList = [] := by
  rw [ByteArray.toList_eq]
  exact fun e => h (by have := congrArg List.length e; simpa using this)

section
variable (w : World) (k : Int) (n m : ByteArray) (t : Int) (b : List Nat) (a : Option Addr) (c : Nat)

set_option maxHeartbeats 4000000 in
theorem sayable_any (hs : n.size ≤ 140737488351232) (hm : m.size ≤ 140737488351232) (hl : b.length ≤ 140737488351232) :
    Calls Try.prog 44 #[.agg #[.int .i64 k, .string n, .string m, .int .i64 t, .slice a b.length c]] w fun e w' => e = .returned (.bool (sayB ⟨k, n, m, t, b⟩)) ∧ Hid (Below w.heap.size w w') := by
  have HB : Hid (∀ A, Below w.heap.size w (w.alloc A)) := fun A => (Below.refl _ w).alloc (Nat.le_refl _) A
  cases hn : nameB n with
  | false =>
    have HS : Hid (sayB ⟨k, n, m, t, b⟩ = false) := by show _ = _; simp [sayB, hn]
    have HN : Hid (∀ w, Calls Try.prog 55 #[.string n] w fun e w' => e = .returned (.bool false) ∧ w = w') := fun w => by have := isName_any n w hs; rw [hn] at this; exact this
    clear hn
    go_enter Try.func44, Try.ntmps44
    go_wp2_with (go_at_call 55; refine (HN.out _).mono ?_; rintro e w0 ⟨rfl, rfl⟩)
    go_ret
    exact ⟨ret_bool HS.out.symm, HB.out _⟩
  | true =>
    have HN : Hid (∀ w, Calls Try.prog 55 #[.string n] w fun e w' => e = .returned (.bool true) ∧ w = w') := fun w => by have := isName_any n w hs; rw [hn] at this; exact this
    by_cases h4 : b.length ≤ 4096
    · have HSK : Hid (sayB ⟨k, n, m, t, b⟩ = sayK k m t b.length) := by show _ = _; simp [sayB, hn, h4]
      clear hn
      have h4i : (b.length : Int) ≤ 4096 := by omega
      have HM : Hid (∀ w, Calls Try.prog 55 #[.string m] w fun e w' => e = .returned (.bool (nameB m)) ∧ w = w') := fun w => isName_any m w hm
      by_cases k1 : k = 1
      · subst k1
        by_cases hm0 : m.size = 0
        · have HS : Hid (sayK 1 m t b.length = decide (t = 0)) := by show _ = _; simp [sayK, hm0]
          obtain rfl := empty_is hm0
          clear hm0
          go_enter Try.func44, Try.ntmps44
          go_wp2_with (go_at_call 55; refine (HN.out _).mono ?_; rintro e w0 ⟨rfl, rfl⟩)
          go_ret
          exact ⟨ret_bool (by rw [HSK.out, HS.out]; rfl), HB.out _⟩
        · have HS : Hid (sayK 1 m t b.length = false) := by show _ = _; simp [sayK, hm0]
          have hm1 := empty_not hm0
          go_enter Try.func44, Try.ntmps44
          go_wp2_with (go_at_call 55; refine (HN.out _).mono ?_; rintro e w0 ⟨rfl, rfl⟩)
          go_ret
          exact ⟨ret_bool (by rw [HSK.out, HS.out]), HB.out _⟩
      · by_cases k2 : k = 2
        · subst k2
          by_cases hm0 : m.size = 0
          · obtain rfl := empty_is hm0
            by_cases t0 : 0 ≤ t
            · have HS : Hid (sayK 2 ⟨#[]⟩ t b.length = decide (t ≤ 4096)) := by show _ = _; simp [sayK, hm0, t0]
              clear hm0
              go_enter Try.func44, Try.ntmps44
              go_wp2_with (go_at_call 55; refine (HN.out _).mono ?_; rintro e w0 ⟨rfl, rfl⟩)
              go_ret
              exact ⟨ret_bool (by rw [HSK.out, HS.out]), HB.out _⟩
            · have HS : Hid (sayK 2 ⟨#[]⟩ t b.length = false) := by show _ = _; simp [sayK, hm0, t0]
              clear hm0
              have t1 : t < 0 := by omega
              clear t0
              go_enter Try.func44, Try.ntmps44
              go_wp2_with (go_at_call 55; refine (HN.out _).mono ?_; rintro e w0 ⟨rfl, rfl⟩)
              go_ret
              exact ⟨ret_bool (by rw [HSK.out, HS.out]), HB.out _⟩
          · have HS : Hid (sayK 2 m t b.length = false) := by show _ = _; simp [sayK, hm0]
            have hm1 := empty_not hm0
            go_enter Try.func44, Try.ntmps44
            go_wp2_with (go_at_call 55; refine (HN.out _).mono ?_; rintro e w0 ⟨rfl, rfl⟩)
            go_ret
            exact ⟨ret_bool (by rw [HSK.out, HS.out]), HB.out _⟩
        · by_cases k3 : k = 3
          · subst k3
            have HS : Hid (sayK 3 m t b.length = (nameB m && decide (t = 0) && decide (b.length = 0))) := rfl
            generalize nameB m = nb at HM HS
            go_enter Try.func44, Try.ntmps44
            go_wp2_with fail
            refine (HN.out _).mono ?_
            rintro e w0 ⟨rfl, rfl⟩
            go_wp2_with fail
            refine (HM.out _).mono ?_
            rintro e w0 ⟨rfl, rfl⟩
            cases nb with
            | false =>
              go_wp2
              go_ret
              exact ⟨ret_bool (by rw [HSK.out, HS.out]; rfl), HB.out _⟩
            | true =>
              by_cases t0 : t = 0
              · subst t0
                go_wp2
                go_ret
                exact ⟨ret_bool (by rw [HSK.out, HS.out]; first | exact len0 b | (rw [decide_eq_true rfl]; exact len0 b) | (simp only [Bool.true_and, decide_true]; exact len0 b)), HB.out _⟩
              · have t1 : (t == 0) = false := beq_eq_false_iff_ne.2 t0
                have HT : Hid (decide (t = 0) = false) := decide_eq_false t0
                clear t0
                go_wp2
                go_ret
                exact ⟨ret_bool (by rw [HSK.out, HS.out, HT.out]; rfl), HB.out _⟩
          · by_cases k4 : k = 4
            · subst k4
              by_cases hm0 : m.size = 0
              · obtain rfl := empty_is hm0
                by_cases t0 : t = 0
                · subst t0
                  have HS : Hid (sayK 4 ⟨#[]⟩ 0 b.length = decide (b.length = 0)) := by show _ = _; simp [sayK, hm0]
                  clear hm0
                  go_enter Try.func44, Try.ntmps44
                  go_wp2_with (go_at_call 55; refine (HN.out _).mono ?_; rintro e w0 ⟨rfl, rfl⟩)
                  go_ret
                  exact ⟨ret_bool (by rw [HSK.out, HS.out]; first | exact len0 b | (rw [decide_eq_true rfl]; exact len0 b) | (simp only [Bool.true_and, decide_true]; exact len0 b)), HB.out _⟩
                · have HS : Hid (sayK 4 ⟨#[]⟩ t b.length = false) := by show _ = _; simp [sayK, t0]
                  have t1 : (t == 0) = false := beq_eq_false_iff_ne.2 t0
                  clear hm0 t0
                  go_enter Try.func44, Try.ntmps44
                  go_wp2_with (go_at_call 55; refine (HN.out _).mono ?_; rintro e w0 ⟨rfl, rfl⟩)
                  go_ret
                  exact ⟨ret_bool (by rw [HSK.out, HS.out]), HB.out _⟩
              · have HS : Hid (sayK 4 m t b.length = false) := by show _ = _; simp [sayK, hm0]
                have hm1 := empty_not hm0
                go_enter Try.func44, Try.ntmps44
                go_wp2_with (go_at_call 55; refine (HN.out _).mono ?_; rintro e w0 ⟨rfl, rfl⟩)
                go_ret
                exact ⟨ret_bool (by rw [HSK.out, HS.out]), HB.out _⟩
            · have HS : Hid (sayK k m t b.length = false) := by show _ = _; simp [sayK, k1, k2, k3, k4]
              have g1 : (k == 1) = false := beq_eq_false_iff_ne.2 k1
              have g2 : (k == 2) = false := beq_eq_false_iff_ne.2 k2
              have g3 : (k == 3) = false := beq_eq_false_iff_ne.2 k3
              have g4 : (k == 4) = false := beq_eq_false_iff_ne.2 k4
              clear k1 k2 k3 k4
              go_enter Try.func44, Try.ntmps44
              go_wp2_with (go_at_call 55; refine (HN.out _).mono ?_; rintro e w0 ⟨rfl, rfl⟩)
              go_ret
              exact ⟨ret_bool (by rw [HSK.out, HS.out]), HB.out _⟩
    · have HS : Hid (sayB ⟨k, n, m, t, b⟩ = false) := by show _ = _; simp [sayB, h4]
      have h4i : (4096 : Int) < (b.length : Int) := by omega
      clear hn
      go_enter Try.func44, Try.ntmps44
      go_wp2_with (go_at_call 55; refine (HN.out _).mono ?_; rintro e w0 ⟨rfl, rfl⟩)
      go_ret
      exact ⟨ret_bool HS.out.symm, HB.out _⟩
end

/-- an operation that the bounds bar. -/
theorem say_bar {k : Int} {n m : ByteArray} {t : Int} {b : List Nat} (h : k < 1 ∨ 4 < k ∨ nameB n = false ∨ 4096 < b.length ∨ t < 0 ∨ 4096 < t) : sayB ⟨k, n, m, t, b⟩ = false := by
  cases hc : sayB ⟨k, n, m, t, b⟩ with
  | false => rfl
  | true =>
    exfalso
    simp only [sayB, Bool.and_eq_true, decide_eq_true_eq] at hc
    obtain ⟨⟨h1, h2⟩, h3⟩ := hc
    unfold sayK at h3
    rw [h1] at h
    simp only [Bool.true_eq_false, false_or] at h
    split at h3
    · simp at h3; omega
    · split at h3
      · simp at h3; omega
      · split at h3
        · simp at h3; omega
        · split at h3
          · simp at h3; omega
          · simp at h3
theorem say_in {k : Int} {n m : ByteArray} {t : Int} {b : List Nat} (h1 : nameB n = true) (h2 : b.length ≤ 4096) : sayB ⟨k, n, m, t, b⟩ = sayK k m t b.length := by simp [sayB, h1, h2]

section
variable (w : World) (k : Int) (n m : ByteArray) (t : Int) (b : List Nat) (a : Option Addr) (c : Nat)
set_option maxHeartbeats 4000000 in
theorem rightOp_any (hs : n.size ≤ 140737488351232) (hm : m.size ≤ 140737488351232) (hl : b.length ≤ 140737488351232) :
    Calls Try.prog 20 #[.agg #[.int .i64 k, .string n, .string m, .int .i64 t, .slice a b.length c]] w fun e w' => e = .returned (.bool (sayB ⟨k, n, m, t, b⟩)) ∧ Hid (Below w.heap.size w w') := by
  have HB : Hid (∀ A, Below w.heap.size w (w.alloc A)) := fun A => (Below.refl _ w).alloc (Nat.le_refl _) A
  by_cases k1 : k < 1
  · have HS : Hid (sayB ⟨k, n, m, t, b⟩ = false) := say_bar (.inl k1)
    go_enter Try.func20, Try.ntmps20
    go_wp2
    go_ret
    exact ⟨ret_bool (HS.out.symm), HB.out _⟩
  · by_cases k4 : 4 < k
    · have HS : Hid (sayB ⟨k, n, m, t, b⟩ = false) := say_bar (.inr (.inl k4))
      go_enter Try.func20, Try.ntmps20
      go_wp2
      go_ret
      exact ⟨ret_bool (HS.out.symm), HB.out _⟩
    · have q1 : 1 ≤ k := by omega
      have q4 : k ≤ 4 := by omega
      clear k1 k4
      cases hn : nameB n with
      | false =>
        have HS : Hid (sayB ⟨k, n, m, t, b⟩ = false) := say_bar (.inr (.inr (.inl hn)))
        have HN : Hid (∀ w, Calls Try.prog 29 #[.string n] w fun e w' => e = .returned (.bool false) ∧ w' = w) := fun w => by have := rname_any n w hs; rw [hn] at this; exact this
        clear hn
        go_enter Try.func20, Try.ntmps20
        go_wp2_with (go_at_call 29; refine (HN.out _).mono ?_; rintro e w0 ⟨rfl, rfl⟩)
        go_ret
        exact ⟨ret_bool (HS.out.symm), HB.out _⟩
      | true =>
        have HN : Hid (∀ w, Calls Try.prog 29 #[.string n] w fun e w' => e = .returned (.bool true) ∧ w = w') := fun w => by have := rname_any n w hs; rw [hn] at this; exact this.mono fun e w' ⟨h1, h2⟩ => ⟨h1, h2.symm⟩
        by_cases h4 : 4096 < b.length
        · have HS : Hid (sayB ⟨k, n, m, t, b⟩ = false) := say_bar (.inr (.inr (.inr (.inl h4))))
          have h4i : (4096 : Int) < (b.length : Int) := by omega
          clear hn
          go_enter Try.func20, Try.ntmps20
          go_wp2_with (go_at_call 29; refine (HN.out _).mono ?_; rintro e w0 ⟨rfl, rfl⟩)
          go_ret
          exact ⟨ret_bool (HS.out.symm), HB.out _⟩
        · have h4i : (b.length : Int) ≤ 4096 := by omega
          by_cases t0 : t < 0
          · have HS : Hid (sayB ⟨k, n, m, t, b⟩ = false) := say_bar (.inr (.inr (.inr (.inr (.inl t0)))))
            clear hn
            go_enter Try.func20, Try.ntmps20
            go_wp2_with (go_at_call 29; refine (HN.out _).mono ?_; rintro e w0 ⟨rfl, rfl⟩)
            go_ret
            exact ⟨ret_bool (HS.out.symm), HB.out _⟩
          · have t0i : 0 ≤ t := by omega
            by_cases t4 : 4096 < t
            · have HS : Hid (sayB ⟨k, n, m, t, b⟩ = false) := say_bar (.inr (.inr (.inr (.inr (.inr t4)))))
              clear hn t0
              go_enter Try.func20, Try.ntmps20
              go_wp2_with (go_at_call 29; refine (HN.out _).mono ?_; rintro e w0 ⟨rfl, rfl⟩)
              go_ret
              exact ⟨ret_bool (HS.out.symm), HB.out _⟩
            · have t4i : t ≤ 4096 := by omega
              have HSK : Hid (sayB ⟨k, n, m, t, b⟩ = sayK k m t b.length) := say_in hn (by omega)
              clear hn t0 t4 h4
              by_cases k3 : k = 3
              · subst k3
                have HM : Hid (∀ w, Calls Try.prog 29 #[.string m] w fun e w' => e = .returned (.bool (nameB m)) ∧ w = w') := fun w => (rname_any m w hm).mono fun e w' ⟨h1, h2⟩ => ⟨h1, h2.symm⟩
                have HS : Hid (sayK 3 m t b.length = (nameB m && decide (t = 0) && decide (b.length = 0))) := rfl
                generalize nameB m = nb at HM HS
                go_enter Try.func20, Try.ntmps20
                go_wp2_with fail
                refine (HN.out _).mono ?_
                rintro e w0 ⟨rfl, rfl⟩
                go_wp2_with fail
                refine (HM.out _).mono ?_
                rintro e w0 ⟨rfl, rfl⟩
                cases nb with
                | false =>
                  go_wp2
                  go_ret
                  exact ⟨ret_bool (by rw [HSK.out, HS.out]; rfl), HB.out _⟩
                | true =>
                  by_cases t00 : t = 0
                  · subst t00
                    go_wp2
                    go_ret
                    exact ⟨ret_bool (by rw [HSK.out, HS.out]; first | exact len0 b | (rw [decide_eq_true rfl]; exact len0 b) | (simp only [Bool.true_and, decide_true]; exact len0 b)), HB.out _⟩
                  · have t1 : (t == 0) = false := beq_eq_false_iff_ne.2 t00
                    have HT : Hid (decide (t = 0) = false) := decide_eq_false t00
                    clear t00
                    go_wp2
                    go_ret
                    exact ⟨ret_bool (by rw [HSK.out, HS.out, HT.out]; rfl), HB.out _⟩
              · have g3 : (k == 3) = false := beq_eq_false_iff_ne.2 k3
                by_cases hm0 : m.size = 0
                · by_cases k2 : k = 2
                  · subst k2
                    have HS : Hid (sayK 2 m t b.length = true) := by show _ = _; simp [sayK, hm0, t0i, t4i]
                    obtain rfl := empty_is hm0
                    clear hm0 k3 g3
                    go_enter Try.func20, Try.ntmps20
                    go_wp2_with (go_at_call 29; refine (HN.out _).mono ?_; rintro e w0 ⟨rfl, rfl⟩)
                    go_ret
                    exact ⟨ret_bool (by rw [HSK.out, HS.out]), HB.out _⟩
                  · have g2 : (k == 2) = false := beq_eq_false_iff_ne.2 k2
                    have hk14 : k = 1 ∨ k = 4 := by omega
                    by_cases t00 : t = 0
                    · subst t00
                      rcases hk14 with rfl | rfl
                      · have HS : Hid (sayK 1 m 0 b.length = true) := by show _ = _; simp [sayK, hm0]
                        obtain rfl := empty_is hm0
                        clear hm0 k3 g3 k2 g2
                        go_enter Try.func20, Try.ntmps20
                        go_wp2_with (go_at_call 29; refine (HN.out _).mono ?_; rintro e w0 ⟨rfl, rfl⟩)
                        go_ret
                        exact ⟨ret_bool (by rw [HSK.out, HS.out]), HB.out _⟩
                      · have HS : Hid (sayK 4 m 0 b.length = decide (b.length = 0)) := by show _ = _; simp [sayK, hm0]
                        obtain rfl := empty_is hm0
                        clear hm0 k3 g3 k2 g2
                        go_enter Try.func20, Try.ntmps20
                        go_wp2_with (go_at_call 29; refine (HN.out _).mono ?_; rintro e w0 ⟨rfl, rfl⟩)
                        go_ret
                        exact ⟨ret_bool (by rw [HSK.out, HS.out]; exact len0 b), HB.out _⟩
                    · have t1 : (t == 0) = false := beq_eq_false_iff_ne.2 t00
                      have t2 : (t != 0) = true := by rw [bne, t1]; rfl
                      rcases hk14 with rfl | rfl
                      · have HS : Hid (sayK 1 m t b.length = false) := by show _ = _; simp [sayK, t00]
                        obtain rfl := empty_is hm0
                        clear hm0 k3 k2 t00 g2 g3
                        go_enter Try.func20, Try.ntmps20
                        go_wp2_with (go_at_call 29; refine (HN.out _).mono ?_; rintro e w0 ⟨rfl, rfl⟩)
                        go_ret
                        exact ⟨ret_bool (by rw [HSK.out, HS.out]), HB.out _⟩
                      · have HS : Hid (sayK 4 m t b.length = false) := by show _ = _; simp [sayK, t00]
                        obtain rfl := empty_is hm0
                        clear hm0 k3 k2 t00 g2 g3
                        go_enter Try.func20, Try.ntmps20
                        go_wp2_with (go_at_call 29; refine (HN.out _).mono ?_; rintro e w0 ⟨rfl, rfl⟩)
                        go_ret
                        exact ⟨ret_bool (by rw [HSK.out, HS.out]), HB.out _⟩
                · have HS : Hid (sayK k m t b.length = false) := by
                    show _ = _
                    have hk : k = 1 ∨ k = 2 ∨ k = 4 := by omega
                    rcases hk with rfl | rfl | rfl <;> simp [sayK, hm0]
                  have hm1 := empty_not hm0
                  clear k3
                  go_enter Try.func20, Try.ntmps20
                  go_wp2_with (go_at_call 29; refine (HN.out _).mono ?_; rintro e w0 ⟨rfl, rfl⟩)
                  go_ret
                  exact ⟨ret_bool (by rw [HSK.out, HS.out]), HB.out _⟩
end
end Go.Proofs.Ytfocejmfmnijpaa
