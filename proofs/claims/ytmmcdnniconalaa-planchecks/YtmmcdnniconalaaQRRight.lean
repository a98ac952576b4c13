/- The walk of the reference's Right. -/
import Derived.Test.YtmmcdnniconalaaQCheck
import Derived.Test.YtmmcdnniconalaaQPure
namespace Go.Proofs.Ytmmcdnniconalaa
open Go.RowKit
set_option linter.unusedVariables false
theorem mt_of {a b : Ct} (h : mtC a b = true) : a.frm = b.frm ∧ a.to = b.to ∧ a.st < b.en ∧ b.st < a.en := by
  simp only [mtC, Bool.and_eq_true, decide_eq_true_eq] at h
  exact h
theorem mt_to {a b : Ct} (h : mtC a b = false) : ¬ (a.frm = b.frm ∧ a.to = b.to ∧ a.st < b.en ∧ b.st < a.en) := by
  intro q
  have : mtC a b = true := by simp only [mtC, Bool.and_eq_true, decide_eq_true_eq]; exact q
  rw [h] at this
  cases this
theorem okC_not {c : Ct} {n : Int} (h : okC c n = false) : ¬ (1 ≤ c.frm ∧ c.frm ≤ n ∧ 1 ≤ c.to ∧ c.to ≤ n ∧ c.frm ≠ c.to ∧ 0 ≤ c.st ∧ c.st < c.en ∧ c.en ≤ 1048576 ∧ 1 ≤ c.rt ∧ c.rt ≤ 4096 ∧ 0 ≤ c.dl ∧ c.dl ≤ 4096) := by
  intro q
  have : okC c n = true := by
    simp only [okC, wi, Bool.and_eq_true, decide_eq_true_eq]
    omega
  rw [h] at this
  cases this
theorem okC_bad {c : Ct} {n : Int} (h : okC c n = false) : (c.frm < 1) ∨ (1 ≤ c.frm ∧ n < c.frm) ∨ (1 ≤ c.frm ∧ c.frm ≤ n ∧ c.to < 1) ∨ (1 ≤ c.frm ∧ c.frm ≤ n ∧ 1 ≤ c.to ∧ n < c.to) ∨ (1 ≤ c.frm ∧ c.frm ≤ n ∧ 1 ≤ c.to ∧ c.to ≤ n ∧ (c.frm == c.to) = true) ∨ (1 ≤ c.frm ∧ c.frm ≤ n ∧ 1 ≤ c.to ∧ c.to ≤ n ∧ (c.frm == c.to) = false ∧ c.st < 0) ∨ (1 ≤ c.frm ∧ c.frm ≤ n ∧ 1 ≤ c.to ∧ c.to ≤ n ∧ (c.frm == c.to) = false ∧ 0 ≤ c.st ∧ c.en ≤ c.st) ∨ (1 ≤ c.frm ∧ c.frm ≤ n ∧ 1 ≤ c.to ∧ c.to ≤ n ∧ (c.frm == c.to) = false ∧ 0 ≤ c.st ∧ c.st < c.en ∧ 1048576 < c.en) ∨ (1 ≤ c.frm ∧ c.frm ≤ n ∧ 1 ≤ c.to ∧ c.to ≤ n ∧ (c.frm == c.to) = false ∧ 0 ≤ c.st ∧ c.st < c.en ∧ c.en ≤ 1048576 ∧ c.rt < 1) ∨ (1 ≤ c.frm ∧ c.frm ≤ n ∧ 1 ≤ c.to ∧ c.to ≤ n ∧ (c.frm == c.to) = false ∧ 0 ≤ c.st ∧ c.st < c.en ∧ c.en ≤ 1048576 ∧ 1 ≤ c.rt ∧ 4096 < c.rt) ∨ (1 ≤ c.frm ∧ c.frm ≤ n ∧ 1 ≤ c.to ∧ c.to ≤ n ∧ (c.frm == c.to) = false ∧ 0 ≤ c.st ∧ c.st < c.en ∧ c.en ≤ 1048576 ∧ 1 ≤ c.rt ∧ c.rt ≤ 4096 ∧ c.dl < 0) ∨ (1 ≤ c.frm ∧ c.frm ≤ n ∧ 1 ≤ c.to ∧ c.to ≤ n ∧ (c.frm == c.to) = false ∧ 0 ≤ c.st ∧ c.st < c.en ∧ c.en ≤ 1048576 ∧ 1 ≤ c.rt ∧ c.rt ≤ 4096 ∧ 0 ≤ c.dl ∧ 4096 < c.dl) := by
  have h2 := okC_not h
  by_cases p1 : 1 ≤ c.frm
  · skip
    by_cases p2 : c.frm ≤ n
    · skip
      by_cases p3 : 1 ≤ c.to
      · skip
        by_cases p4 : c.to ≤ n
        · skip
          by_cases p50 : c.frm = c.to
          · have q : (c.frm == c.to) = true := by simp [p50]
            exact .inr (.inr (.inr (.inr (.inl ⟨p1, p2, p3, p4, q⟩))))
          · have p5 : (c.frm == c.to) = false := by simp [p50]
            by_cases p6 : 0 ≤ c.st
            · skip
              by_cases p7 : c.st < c.en
              · skip
                by_cases p8 : c.en ≤ 1048576
                · skip
                  by_cases p9 : 1 ≤ c.rt
                  · skip
                    by_cases p10 : c.rt ≤ 4096
                    · skip
                      by_cases p11 : 0 ≤ c.dl
                      · skip
                        by_cases p12 : c.dl ≤ 4096
                        · skip
                          exact absurd ⟨p1, p2, p3, p4, by simpa using p5, p6, p7, p8, p9, p10, p11, p12⟩ h2
                        · have q : 4096 < c.dl := by omega
                          exact .inr (.inr (.inr (.inr (.inr (.inr (.inr (.inr (.inr (.inr (.inr (⟨p1, p2, p3, p4, p5, p6, p7, p8, p9, p10, p11, q⟩)))))))))))
                      · have q : c.dl < 0 := by omega
                        exact .inr (.inr (.inr (.inr (.inr (.inr (.inr (.inr (.inr (.inr (.inl ⟨p1, p2, p3, p4, p5, p6, p7, p8, p9, p10, q⟩))))))))))
                    · have q : 4096 < c.rt := by omega
                      exact .inr (.inr (.inr (.inr (.inr (.inr (.inr (.inr (.inr (.inl ⟨p1, p2, p3, p4, p5, p6, p7, p8, p9, q⟩)))))))))
                  · have q : c.rt < 1 := by omega
                    exact .inr (.inr (.inr (.inr (.inr (.inr (.inr (.inr (.inl ⟨p1, p2, p3, p4, p5, p6, p7, p8, q⟩))))))))
                · have q : 1048576 < c.en := by omega
                  exact .inr (.inr (.inr (.inr (.inr (.inr (.inr (.inl ⟨p1, p2, p3, p4, p5, p6, p7, q⟩)))))))
              · have q : c.en ≤ c.st := by omega
                exact .inr (.inr (.inr (.inr (.inr (.inr (.inl ⟨p1, p2, p3, p4, p5, p6, q⟩))))))
            · have q : c.st < 0 := by omega
              exact .inr (.inr (.inr (.inr (.inr (.inl ⟨p1, p2, p3, p4, p5, q⟩)))))
        · have q : n < c.to := by omega
          exact .inr (.inr (.inr (.inl ⟨p1, p2, p3, q⟩)))
      · have q : c.to < 1 := by omega
        exact .inr (.inr (.inl ⟨p1, p2, q⟩))
    · have q : n < c.frm := by omega
      exact .inr (.inl ⟨p1, q⟩)
  · have q : c.frm < 1 := by omega
    exact .inl q
theorem okP_no {n : Int} {X : List Ct} {j : Nat} {c : Ct} (hc : X[j]? = some c) (h : okC c n = false ∨ (X.take j).any (mtC c) = true) : okP n X = false := by
  have h1 : okK n X (j + 1) = false := by rw [okK_succ hc]; rcases h with e | e <;> simp [e]
  have hj := (List.getElem?_eq_some_iff.1 hc).1
  cases hp : okP n X with
  | false => rfl
  | true =>
    unfold okP at hp
    simp only [Bool.and_eq_true] at hp
    have := okK_le (k := j + 1) (by omega) hp.2.2
    rw [h1] at this
    cases this
theorem any_later {X : List Ct} {q j : Nat} {c d : Ct} (hd : X[q]? = some d) (h : mtC c d = true) (hq : q < j) : (X.take j).any (mtC c) = true := by
  rw [List.any_eq_true]
  refine ⟨d, ?_, h⟩
  exact List.mem_of_getElem? (i := q) (by rw [List.getElem?_take_of_lt hq]; exact hd)
set_option maxRecDepth 20000 in
set_option maxHeartbeats 40000000 in
theorem rright_any (n : Int) (a : Option Addr) (m k : Nat) (X : List Ct) (w : World) (hm : X.length = m) (hmk : m ≤ k) (hk : k ≤ maxLen) (hX : CtAt (fun _ => False) w a X) :
    Calls Try.prog 8 #[pv n a m k] w fun e w' => e = .returned (.bool (okP n X)) ∧ Hid (Below w.heap.size w w') := by
  unfold maxLen at hk
  unfold pv
  obtain ⟨R, HR⟩ : ∃ R, Hid (okP n X = R) := ⟨_, rfl⟩
  rw [HR.out]
  by_cases hn : 2 ≤ n ∧ n ≤ 6 ∧ m ≤ 24
  · obtain ⟨hn1, hn2, h24⟩ := hn
    go_enter Try.func8, Try.ntmps8
    go_wp2
    go_loopw [3] (fun i wr => ∃ j : Nat, j ≤ m ∧ i = .int .i64 j ∧ Hid (Below w.heap.size w wr ∧ okK n X j = true) ∧ wr.cell? ⟨w.heap.size, 0, none⟩ = some (.int .i64 n) ∧ wr.cell? ⟨w.heap.size, 1, none⟩ = some (.slice a m k)) (fun i _ => m - (intOf i).toNat)
    case atStart => exact ⟨0, Nat.zero_le _, rfl, ⟨(Below.refl _ w).alloc (Nat.le_refl _) _, rfl⟩, by rw [cell_of (heap_alloc_new w _)]; rfl, by rw [cell_of (heap_alloc_new w _)]; rfl⟩
    case round =>
      obtain ⟨j, hj, rfl, HB, cn, cs⟩ := hrel
      by_cases hlt : j < m
      · obtain ⟨c, hc⟩ : ∃ c, X[j]? = some c := ⟨_, List.getElem?_eq_getElem (by omega)⟩
        obtain ⟨b', o, rfl, c0, c1, c2, c3, c4, c5⟩ := (hX.later HB.out.1).cells6 hc
        have HF : Hid (okC c n = false ∨ (X.take j).any (mtC c) = true → R = false) := fun h => by rw [← HR.out]; exact okP_no hc h
        have HBB : Hid (Below wr.heap.size wr (wr.alloc (.cells (cc c) 43))) := (Below.refl _ wr).alloc (Nat.le_refl _) _
        have cn' := cell_later HBB.out cn
        have cs' := cell_later HBB.out cs
        unfold cc at cn' cs'
        cases hok : okC c n with
        | false =>
          have HN : Hid (¬ (1 ≤ c.frm ∧ c.frm ≤ n ∧ 1 ≤ c.to ∧ c.to ≤ n ∧ c.frm ≠ c.to ∧ 0 ≤ c.st ∧ c.st < c.en ∧ c.en ≤ 1048576 ∧ 1 ≤ c.rt ∧ c.rt ≤ 4096 ∧ 0 ≤ c.dl ∧ c.dl ≤ 4096)) := okC_not hok
          have HR2 : Hid (R = false) := HF.out (.inl hok)
          unfold cc at HBB
          have hbad := okC_bad hok
          clear hX hc HF hok HR HN
          rcases hbad with q | ⟨p1, q⟩ | ⟨p1, p2, q⟩ | ⟨p1, p2, p3, q⟩ | ⟨p1, p2, p3, p4, q⟩ | ⟨p1, p2, p3, p4, p5, q⟩ | ⟨p1, p2, p3, p4, p5, p6, q⟩ | ⟨p1, p2, p3, p4, p5, p6, p7, q⟩ | ⟨p1, p2, p3, p4, p5, p6, p7, p8, q⟩ | ⟨p1, p2, p3, p4, p5, p6, p7, p8, p9, q⟩ | ⟨p1, p2, p3, p4, p5, p6, p7, p8, p9, p10, q⟩ | ⟨p1, p2, p3, p4, p5, p6, p7, p8, p9, p10, p11, q⟩
          all_goals
            go_wp2
            go_ret
            exact ⟨ret_bool HR2.out.symm, below_of HB.out.1 HBB.out⟩
        | true =>
          have HBc : Hid ((wr.alloc (.cells (cc c) 43)).heap[wr.heap.size]? = some (.cells (cc c) 43 (0, 0)) ∧ Below w.heap.size w (wr.alloc (.cells (cc c) 43))) := ⟨heap_alloc_new wr _, below_of HB.out.1 HBB.out⟩
          obtain ⟨k1, k2, k3, k4, k5, k6, k7, k8, k9, l1, l2, l3⟩ := okC_of hok
          have HOK : Hid (okK n X j = true ∧ okC c n = true ∧ X[j]? = some c) := ⟨HB.out.2, hok, hc⟩
          unfold cc at HBB HBc
          have k5' : (c.frm == c.to) = false := by simpa using k5
          clear hok hc k5
          go_wp2
          rename World => wo
          go_loopw [5] (fun i wr => ∃ q : Nat, q ≤ j ∧ i = .int .i64 q ∧ Hid (Below w.heap.size w wr ∧ wr.heap[wo.heap.size]? = some (.cells (cc c) 43 (0, 0)) ∧ (X.take q).any (mtC c) = false) ∧ wr.cell? ⟨w.heap.size, 0, none⟩ = some (.int .i64 n) ∧ wr.cell? ⟨w.heap.size, 1, none⟩ = some (.slice (some ⟨b', o, none⟩) m k)) (fun i _ => j - (intOf i).toNat)
          case atStart => exact ⟨0, Nat.zero_le _, rfl, ⟨HBc.out.2, HBc.out.1, rfl⟩, cell_later HBB.out cn, cell_later HBB.out cs⟩
          case round =>
            obtain ⟨q, hq, rfl, HQ, cn2, cs2⟩ := hrel
            by_cases hlq : q < j
            · obtain ⟨d, hd⟩ : ∃ d, X[q]? = some d := ⟨_, List.getElem?_eq_getElem (by omega)⟩
              obtain ⟨b2, o2, hbo, d0, d1, d2, d3, d4, d5⟩ := (hX.later HQ.out.1).cells6 hd
              cases hbo
              have HBD : Hid (Below wr.heap.size wr (wr.alloc (.cells (cc d) 43))) := (Below.refl _ wr).alloc (Nat.le_refl _) _
              have hcb := HQ.out.2.1
              obtain ⟨e0, e1, e2, e3, e4, e5⟩ := box6 hcb
              have e0' := cell_later HBD.out e0
              have e1' := cell_later HBD.out e1
              have e2' := cell_later HBD.out e2
              have e3' := cell_later HBD.out e3
              have HT : Hid ((X.take (q + 1)).any (mtC c) = ((X.take q).any (mtC c) || mtC c d)) := any_take hd _
              have cn3 := cell_later HBD.out cn2
              have cs3 := cell_later HBD.out cs2
              have HA : Hid (mtC c d = true → R = false) := fun h => HF.out (.inr (any_later hd h (by omega)))
              unfold cc at HBD e0' e1' e2' e3' cn3 cs3
              have HBQ : Hid (Below w.heap.size w (wr.alloc (.cells #[.int .i64 d.frm, .int .i64 d.to, .int .i64 d.st, .int .i64 d.en, .int .i64 d.rt, .int .i64 d.dl] 43)) ∧ (wr.alloc (.cells #[.int .i64 d.frm, .int .i64 d.to, .int .i64 d.st, .int .i64 d.en, .int .i64 d.rt, .int .i64 d.dl] 43)).heap[wo.heap.size]? = some (.cells (cc c) 43 (0, 0))) := ⟨below_of HQ.out.1 HBD.out, old_block HBD.out hcb⟩
              clear hcb hd e0 e1 e2 e3 e4 e5
              cases hmt : mtC c d with
              | true =>
                have HR2 : Hid (R = false) := HA.out hmt
                obtain ⟨g1, g2, g3, g4⟩ := mt_of hmt
                have g1' : (d.frm == c.frm) = true := by simp [g1]
                have g2' : (d.to == c.to) = true := by simp [g2]
                have g3' : decide (d.en ≤ c.st) = false := by simp; omega
                have g4' : decide (c.en ≤ d.st) = false := by simp; omega
                clear hmt HA g1 g2 HR
                go_wp2
                go_ret
                exact ⟨ret_bool HR2.out.symm, HBQ.out.1⟩
              | false =>
                have hG := mt_to hmt
                have HT2 : Hid ((X.take (q + 1)).any (mtC c) = false) := by show _ = false; rw [HT.out, HQ.out.2.2, hmt]; rfl
                clear hmt HA HR HT
                cases h1 : (d.frm == c.frm) with
                | false =>
                  clear hG
                  go_wp2
                  first
                    | exact ⟨⟨q + 1, by omega, by go_num, ⟨HBQ.out.1, HBQ.out.2, HT2.out⟩, cn3, cs3⟩, by simp [intOf]; omega⟩
                    | (refine ⟨?_, ?_⟩
                       · (repeat (apply Exists.intro))
                         exact ⟨⟨q + 1, by omega, by go_num, ⟨HBQ.out.1, HBQ.out.2, HT2.out⟩, cn3, cs3⟩, rfl⟩
                       · simp [intOf]; omega)
                | true =>
                  cases h2 : (d.to == c.to) with
                  | false =>
                    clear hG
                    go_wp2
                    first
                      | exact ⟨⟨q + 1, by omega, by go_num, ⟨HBQ.out.1, HBQ.out.2, HT2.out⟩, cn3, cs3⟩, by simp [intOf]; omega⟩
                      | (refine ⟨?_, ?_⟩
                         · (repeat (apply Exists.intro))
                           exact ⟨⟨q + 1, by omega, by go_num, ⟨HBQ.out.1, HBQ.out.2, HT2.out⟩, cn3, cs3⟩, rfl⟩
                         · simp [intOf]; omega)
                  | true =>
                    by_cases h3 : d.en ≤ c.st
                    · clear hG
                      go_wp2
                      first
                        | exact ⟨⟨q + 1, by omega, by go_num, ⟨HBQ.out.1, HBQ.out.2, HT2.out⟩, cn3, cs3⟩, by simp [intOf]; omega⟩
                        | (refine ⟨?_, ?_⟩
                           · (repeat (apply Exists.intro))
                             exact ⟨⟨q + 1, by omega, by go_num, ⟨HBQ.out.1, HBQ.out.2, HT2.out⟩, cn3, cs3⟩, rfl⟩
                           · simp [intOf]; omega)
                    · have h4 : c.en ≤ d.st := by
                        simp only [beq_iff_eq] at h1 h2
                        omega
                      clear hG
                      go_wp2
                      first
                        | exact ⟨⟨q + 1, by omega, by go_num, ⟨HBQ.out.1, HBQ.out.2, HT2.out⟩, cn3, cs3⟩, by simp [intOf]; omega⟩
                        | (refine ⟨?_, ?_⟩
                           · (repeat (apply Exists.intro))
                             exact ⟨⟨q + 1, by omega, by go_num, ⟨HBQ.out.1, HBQ.out.2, HT2.out⟩, cn3, cs3⟩, rfl⟩
                           · simp [intOf]; omega)
            · obtain rfl : q = j := by omega
              go_wp2
              first
                | exact ⟨⟨q + 1, by omega, by go_num, ⟨HQ.out.1, by rw [okK_succ HOK.out.2.2, HOK.out.1, HOK.out.2.1, HQ.out.2.2]; rfl⟩, cn2, cs2⟩, by simp [intOf]; omega⟩
                | (refine ⟨?_, ?_⟩
                   · (repeat (apply Exists.intro))
                     exact ⟨⟨q + 1, by omega, by go_num, ⟨HQ.out.1, by rw [okK_succ HOK.out.2.2, HOK.out.1, HOK.out.2.1, HQ.out.2.2]; rfl⟩, cn2, cs2⟩, rfl⟩
                   · simp [intOf]; omega)
      · go_wp2
        go_ret
        obtain rfl : j = m := by omega
        refine ⟨ret_bool ?_, HB.out.1⟩
        rw [← HR.out]
        unfold okP
        rw [hm, HB.out.2]
        simp [wi]
        omega
  · have HV : Hid (R = false) := by
      show R = false
      rw [← HR.out]
      cases hp : okP n X with
      | false => rfl
      | true => have := okP_of hp; exact absurd ⟨this.n2, this.n6, by have := this.len; omega⟩ hn
    have HN : Hid (¬ (2 ≤ n ∧ n ≤ 6 ∧ m ≤ 24)) := hn
    clear hn hX HR
    go_enter Try.func8, Try.ntmps8
    go_wp2
    all_goals first
      | (go_ret; exact ⟨ret_bool HV.out.symm, (Below.refl _ w).alloc (Nat.le_refl _) _⟩)
      | (exfalso; have := HN.out; omega)
end Go.Proofs.Ytmmcdnniconalaa
