/- The walk of the reference's Route. -/
import Derived.Test.YtmmcdnniconalaaQRArrW
namespace Go.Proofs.Ytmmcdnniconalaa
open Go.RowKit
set_option linter.unusedVariables false
theorem rte_skip {X : List Ct} {L : List Int} {frm to now need : Int} {k : Nat} {c : Ct} (hc : X[k]? = some c) (h : c.frm ≠ frm ∨ c.en ≤ now ∨ L.getD k 0 < need) : rteK X L frm to now need (k + 1) = rteK X L frm to now need k := by
  rw [rteK, hc]; simp only; rw [if_pos h]
theorem rte_try {X : List Ct} {L : List Int} {frm to now need : Int} {k : Nat} {c : Ct} (hc : X[k]? = some c) (h : ¬ (c.frm ≠ frm ∨ c.en ≤ now ∨ L.getD k 0 < need)) : rteK X L frm to now need (k + 1) = if gt (arrs X L c.to.toNat (max now c.st + c.dl + 1) need) to.toNat < (rteK X L frm to now need k).2 then ((k : Int), gt (arrs X L c.to.toNat (max now c.st + c.dl + 1) need) to.toNat) else rteK X L frm to now need k := by
  rw [rteK, hc]; simp only; rw [if_neg h]
/-- what the reference's Route answers. -/
def rfR (X : List Ct) (L : List Int) (frm to now need : Int) (m : Nat) : Int × Int := if (rteK X L frm to now need m).1 < 0 then (-1, 0) else rteK X L frm to now need m
theorem ret2 {a b a' b' : Int} (h : (a, b) = (a', b')) : Ending.returned (.tuple #[.int .i64 a, .int .i64 b]) = .returned (.tuple #[.int .i64 a', .int .i64 b']) := by cases h; rfl
set_option maxRecDepth 20000 in
set_option maxHeartbeats 8000000 in
theorem rroute_any (w : World) (nn frm to now need : Int) (ad la : Option Addr) (m k lk : Nat) (X : List Ct) (L : List Int) (hX : OkX nn X) (hm : X.length = m) (hl : L.length = m) (t1 : 1 ≤ to) (t2 : to ≤ 6) (w1 : 0 ≤ now) (hXA : CtAt (fun _ => False) w ad X) (hLA : RowI (fun _ => False) w la L) :
    Calls Try.prog 9 #[pv nn ad m k, .slice la m lk, .int .i64 frm, .int .i64 to, .int .i64 now, .int .i64 need] w fun e w' => e = .returned (.tuple #[.int .i64 (rfR X L frm to now need m).1, .int .i64 (rfR X L frm to now need m).2]) ∧ Hid (Below w.heap.size w w') := by
  have h6 := hX.n6
  have h24 := hX.len
  rw [hm] at h24
  have HC : Hid (∀ W (s t : Int), Below w.heap.size w W → 1 ≤ s → s ≤ 6 → Calls Try.prog 18 #[pv nn ad m k, .slice la m lk, .int .i64 s, .int .i64 t, .int .i64 need] W fun e w' => e = .returned (.agg (wc (arrs X L s.toNat t need))) ∧ Hid (Below W.heap.size W w')) := fun W s t hb h1 h2 => rarr_any W nn s t need ad la m k lk X L hX hm hl h1 h2 (hXA.later hb) (hLA.later hb)
  have HIX : Hid (∀ (A : List Int) (w : World), Sem.run Try.prog (Instr.index 51 (.agg (wc A)) (.int .i64 to)) w = .ok (.int .i64 (gt A to.toNat)) w) := fun A w => by
    have := index7 (V := A) (j := to.toNat) (by omega) w
    rw [show ((to.toNat : Nat) : Int) = to from by omega] at this
    exact this
  obtain ⟨R, HR⟩ : ∃ R, Hid (rfR X L frm to now need m = R) := ⟨_, rfl⟩
  rw [HR.out]
  unfold pv at HC ⊢
  go_enter Try.func9, Try.ntmps9
  go_wp2
  go_loopw [14, 15, 16] (fun f b i wr => ∃ (j : Nat) (s : Int × Int), j ≤ m ∧ i = .int .i64 j ∧ f = .int .i64 s.1 ∧ b = .int .i64 s.2 ∧ Hid (Below w.heap.size w wr ∧ rteK X L frm to now need j = s) ∧ wr.cell? ⟨w.heap.size, 0, none⟩ = some (.int .i64 nn) ∧ wr.cell? ⟨w.heap.size, 1, none⟩ = some (.slice ad m k)) (fun _ _ i _ => m - (intOf i).toNat)
  case atStart => exact ⟨0, (-1, far), Nat.zero_le _, rfl, rfl, rfl, ⟨(Below.refl _ w).alloc (Nat.le_refl _) _, rfl⟩, by rw [cell_of (heap_alloc_new w _)]; rfl, by rw [cell_of (heap_alloc_new w _)]; rfl⟩
  case round =>
    obtain ⟨j, s, hj, rfl, rfl, rfl, HB, cn, cs⟩ := hrel
    by_cases hlt : j < m
    · obtain ⟨c, hc⟩ : ∃ c, X[j]? = some c := ⟨_, List.getElem?_eq_getElem (by omega)⟩
      obtain ⟨l, hll⟩ : ∃ l, L[j]? = some l := ⟨_, List.getElem?_eq_getElem (by omega)⟩
      have hgd : L.getD j 0 = l := by rw [List.getD_eq_getElem?_getD, hll]; rfl
      obtain ⟨b', o, rfl, c0, c1', c2, c3, c4, c5⟩ := (hXA.later HB.out.1).cells6 hc
      have HBB : Hid (Below wr.heap.size wr (wr.alloc (.cells (cc c) 43))) := (Below.refl _ wr).alloc (Nat.le_refl _) _
      obtain ⟨lb, lo, rfl, cl⟩ := (hLA.later (below_of HB.out.1 HBB.out)).at hll
      have hok := hX.each _ _ hc
      have cn' := cell_later HBB.out cn
      have cs' := cell_later HBB.out cs
      have HW : Hid (Below w.heap.size w (wr.alloc (.cells (cc c) 43))) := below_of HB.out.1 HBB.out
      have HS : Hid (c.frm ≠ frm ∨ c.en ≤ now ∨ l < need → rteK X L frm to now need (j + 1) = s) := fun h => by rw [rte_skip hc (by rw [hgd]; exact h)]; exact HB.out.2
      have HT : Hid (¬ (c.frm ≠ frm ∨ c.en ≤ now ∨ l < need) → rteK X L frm to now need (j + 1) = if gt (arrs X L c.to.toNat (max now c.st + c.dl + 1) need) to.toNat < s.2 then ((j : Int), gt (arrs X L c.to.toNat (max now c.st + c.dl + 1) need) to.toNat) else s) := fun h => by rw [rte_try hc (by rw [hgd]; exact h), HB.out.2]
      have k1 := hok.s0
      have k2 := hok.se
      have k3 := hok.e2
      have k4 := hok.d0
      have k5 := hok.d2
      have k6 := hok.t1
      have k7 : c.to ≤ 6 := by have := hok.t2; omega
      unfold cc at HBB cl cn' cs' HW
      clear hc hll hgd hok HR
      cases hb : (c.frm == frm) with
      | false =>
        have HZ : Hid (rteK X L frm to now need (j + 1) = s) := HS.out (.inl (by simpa using hb))
        have hb' : (c.frm != frm) = true := by rw [bne, hb]; rfl
        clear HS HT
        go_wp2
        first
          | exact ⟨⟨j + 1, s, by omega, by go_num, rfl, rfl, ⟨HW.out, HZ.out⟩, cn', cs'⟩, by simp [intOf]; omega⟩
          | (refine ⟨?_, ?_⟩
             · (repeat (apply Exists.intro))
               exact ⟨⟨j + 1, s, by omega, by go_num, rfl, rfl, ⟨HW.out, HZ.out⟩, cn', cs'⟩, rfl⟩
             · simp [intOf]; omega)
      | true =>
        have HFE : Hid (c.frm = frm) := by show c.frm = frm; simpa using hb
        have hb' : (c.frm != frm) = false := by rw [bne, hb]; rfl
        by_cases h2 : c.en ≤ now
        · have HZ : Hid (rteK X L frm to now need (j + 1) = s) := HS.out (.inr (.inl h2))
          clear HS HT
          go_wp2
          first
            | exact ⟨⟨j + 1, s, by omega, by go_num, rfl, rfl, ⟨HW.out, HZ.out⟩, cn', cs'⟩, by simp [intOf]; omega⟩
            | (refine ⟨?_, ?_⟩
               · (repeat (apply Exists.intro))
                 exact ⟨⟨j + 1, s, by omega, by go_num, rfl, rfl, ⟨HW.out, HZ.out⟩, cn', cs'⟩, rfl⟩
               · simp [intOf]; omega)
        · by_cases h3 : l < need
          · have HZ : Hid (rteK X L frm to now need (j + 1) = s) := HS.out (.inr (.inr h3))
            clear HS HT
            go_wp2
            first
              | exact ⟨⟨j + 1, s, by omega, by go_num, rfl, rfl, ⟨HW.out, HZ.out⟩, cn', cs'⟩, by simp [intOf]; omega⟩
              | (refine ⟨?_, ?_⟩
                 · (repeat (apply Exists.intro))
                   exact ⟨⟨j + 1, s, by omega, by go_num, rfl, rfl, ⟨HW.out, HZ.out⟩, cn', cs'⟩, rfl⟩
                 · simp [intOf]; omega)
          · have HT2 : Hid (rteK X L frm to now need (j + 1) = if gt (arrs X L c.to.toNat (max now c.st + c.dl + 1) need) to.toNat < s.2 then ((j : Int), gt (arrs X L c.to.toNat (max now c.st + c.dl + 1) need) to.toNat) else s) := HT.out (fun h => by rcases h with h | h | h; exact h HFE.out; exact h2 h; exact h3 h)
            clear HS HT
            obtain ⟨tt, htt⟩ : ∃ tt, max now c.st + c.dl + 1 = tt := ⟨_, rfl⟩
            rw [htt] at HT2
            have hix := HIX.out
            obtain ⟨G, hG⟩ : ∃ G, gt (arrs X L c.to.toNat tt need) to.toNat = G := ⟨_, rfl⟩
            rw [hG] at HT2
            by_cases h4 : now < c.st
            · have HTT : Hid (c.st + c.dl + 1 = tt) := by show _ = _; omega
              clear htt
              by_cases h5 : G < s.2
              · go_wp2_with (go_at_call 18; refine (HC.out _ _ _ HW.out k6 k7).mono ?_; rintro e w2 ⟨rfl, H2⟩; rw [HTT.out]; have cn2 := cell_later H2.out cn'; have cs2 := cell_later H2.out cs'; have HW2 : Hid (Below w.heap.size w w2) := below_of HW.out H2.out)
                first
                  | exact ⟨⟨j + 1, ((j : Int), G), by omega, by go_num, rfl, rfl, ⟨HW2.out, by rw [HT2.out, if_pos h5]⟩, cn2, cs2⟩, by simp [intOf]; omega⟩
                  | (refine ⟨?_, ?_⟩
                     · (repeat (apply Exists.intro))
                       exact ⟨⟨j + 1, ((j : Int), G), by omega, by go_num, rfl, rfl, ⟨HW2.out, by rw [HT2.out, if_pos h5]⟩, cn2, cs2⟩, rfl⟩
                     · simp [intOf]; omega)
              · go_wp2_with (go_at_call 18; refine (HC.out _ _ _ HW.out k6 k7).mono ?_; rintro e w2 ⟨rfl, H2⟩; rw [HTT.out]; have cn2 := cell_later H2.out cn'; have cs2 := cell_later H2.out cs'; have HW2 : Hid (Below w.heap.size w w2) := below_of HW.out H2.out)
                first
                  | exact ⟨⟨j + 1, s, by omega, by go_num, rfl, rfl, ⟨HW2.out, by rw [HT2.out, if_neg (by omega)]⟩, cn2, cs2⟩, by simp [intOf]; omega⟩
                  | (refine ⟨?_, ?_⟩
                     · (repeat (apply Exists.intro))
                       exact ⟨⟨j + 1, s, by omega, by go_num, rfl, rfl, ⟨HW2.out, by rw [HT2.out, if_neg (by omega)]⟩, cn2, cs2⟩, rfl⟩
                     · simp [intOf]; omega)
            · have HTT : Hid (now + c.dl + 1 = tt) := by show _ = _; omega
              clear htt
              by_cases h5 : G < s.2
              · go_wp2_with (go_at_call 18; refine (HC.out _ _ _ HW.out k6 k7).mono ?_; rintro e w2 ⟨rfl, H2⟩; rw [HTT.out]; have cn2 := cell_later H2.out cn'; have cs2 := cell_later H2.out cs'; have HW2 : Hid (Below w.heap.size w w2) := below_of HW.out H2.out)
                first
                  | exact ⟨⟨j + 1, ((j : Int), G), by omega, by go_num, rfl, rfl, ⟨HW2.out, by rw [HT2.out, if_pos h5]⟩, cn2, cs2⟩, by simp [intOf]; omega⟩
                  | (refine ⟨?_, ?_⟩
                     · (repeat (apply Exists.intro))
                       exact ⟨⟨j + 1, ((j : Int), G), by omega, by go_num, rfl, rfl, ⟨HW2.out, by rw [HT2.out, if_pos h5]⟩, cn2, cs2⟩, rfl⟩
                     · simp [intOf]; omega)
              · go_wp2_with (go_at_call 18; refine (HC.out _ _ _ HW.out k6 k7).mono ?_; rintro e w2 ⟨rfl, H2⟩; rw [HTT.out]; have cn2 := cell_later H2.out cn'; have cs2 := cell_later H2.out cs'; have HW2 : Hid (Below w.heap.size w w2) := below_of HW.out H2.out)
                first
                  | exact ⟨⟨j + 1, s, by omega, by go_num, rfl, rfl, ⟨HW2.out, by rw [HT2.out, if_neg (by omega)]⟩, cn2, cs2⟩, by simp [intOf]; omega⟩
                  | (refine ⟨?_, ?_⟩
                     · (repeat (apply Exists.intro))
                       exact ⟨⟨j + 1, s, by omega, by go_num, rfl, rfl, ⟨HW2.out, by rw [HT2.out, if_neg (by omega)]⟩, cn2, cs2⟩, rfl⟩
                     · simp [intOf]; omega)
    · obtain rfl : j = m := by omega
      have HV : Hid (R = if s.1 < 0 then (-1, 0) else s) := by show _ = _; rw [← HR.out]; unfold rfR; rw [HB.out.2]
      clear HR
      by_cases h0 : s.1 < 0
      · go_wp2
        go_ret2
        exact ⟨ret2 (by rw [HV.out, if_pos h0]), HB.out.1⟩
      · go_wp2
        go_ret2
        exact ⟨ret2 (by rw [HV.out, if_neg (by omega)]), HB.out.1⟩
end Go.Proofs.Ytmmcdnniconalaa
