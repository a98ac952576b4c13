/- The walk of PlanRoutes. -/
import Derived.Test.YtmmcdnniconalaaQEarlier
import Derived.Test.YtmmcdnniconalaaQRRt
import Derived.Test.YtmmcdnniconalaaQRRight
import Derived.Deep.Cut
import Derived.Deep.CutRange
namespace Go.Proofs.Ytmmcdnniconalaa
open Go.RowKit
set_option linter.unusedVariables false
theorem imade_none (w : World) : (w.alloc (.cells #[] 3)).ownsRow w.heap.size 3 1 (.slice (some ⟨w.heap.size, 0, none⟩) 0 0) 0 (icells []) := World.ownsRow_made w #[] 0 (Nat.le_refl _) (Nat.zero_le _) rfl
/-- numbers are copied, in a region that draws its order. -/
theorem step_append_i {ops : Array Oper} {o : Oper} {a : Act} {w : World} {K : Act → World → Prop} {Q : Exit → Act → World → Prop} {E : Prop} (hgd : o.guard = none) (s x : Operand)
    (ho : o.op = .call { callee := .builtin .append, args := #[s, x], argTypes := #[25, 25] }) (base g : Nat) (hs : a.eval s = .slice (some ⟨g, 0, none⟩) 0 0) (hown : w.ownsRow base 3 1 (.slice (some ⟨g, 0, none⟩) 0 0) 0 (icells []))
    (src : Option Addr) (c : Nat) (l : List Int) (nm : Nat) (hnm : l.length = nm) (hx : a.eval x = .slice src nm c) (hr : RowI (fun _ => False) w src l) (hz : nm * 8 ≤ 140737488351232) (hbase : base ≤ w.heap.size)
    (h : ∀ g' cap' w', RowI (fun _ => False) w' (some ⟨g', 0, none⟩) l → Off (fun k => k = g) w w' → nm ≤ cap' → K (a.put o.dst (.slice (some ⟨g', 0, none⟩) nm cap')) w') : if Region.wanted o (yielded ops a.tmps) = true then Oper.wp Try.prog o a w K Q else E := by
  rw [if_pos (by simp [Region.wanted, hgd])]
  obtain ⟨i0, hi, hz0, hz1, hz2⟩ := info_parts Try.info3
  rcases Nat.eq_zero_or_pos nm with hm | hm
  · subst hm
    obtain rfl : l = [] := List.eq_nil_of_length_eq_zero hnm
    have hsrc : Src Try.prog i0.size 25 (.slice src 0 c) 0 [] w := by
      cases src with
      | none => exact Src.ofNil _ Try.underlying25 c
      | some ad => exact Src.ofSlice _ Try.underlying25 ad 0 c [] (by simp) (by simp) (by simp)
    have happ := run_append_room_src w 25 25 o.type 3 i0 Try.underlying25 hi g 0 0 0 (.slice src 0 c) 0 [] hsrc
    have happ := happ (by omega) (by simp) (by simp)
    rw [World.setCells] at happ
    unfold Oper.wp
    simp [execOp, ho, resolve, invoke, builtin, hs, hx, happ, Result.andThen]
    exact h g 0 w (fun h0 => absurd h0 (by simp)) (Off.refl _ _) (Nat.le_refl _)
  · subst hnm
    obtain ⟨b, off, rfl, _, hc⟩ := hr hm
    refine wp_append_lies _ s x 25 ho base 3 i0 (.int .i64 0) 1 8 Try.underlying25 hi hz0 hz1 hz2 rfl (by decide) _ 0 (icells []) hs hown ⟨b, off, none⟩ l.length c (icells l) hx (by rw [icells_length, Nat.mul_one]) (fun j u hu => ?_) (fun u hu => by obtain ⟨y, _, rfl⟩ := List.mem_map.1 hu; rfl) hm (by unfold maxLen; omega) (by omega) hbase w.heap.size rfl ?_
    · have hj : j < l.length := by rw [← icells_length l]; exact (List.getElem?_eq_some_iff.1 hu).1
      rw [Go.WideShapes.add_plain, hc j hj]
      unfold icells at hu
      rw [List.getElem?_map, List.getElem?_eq_getElem hj] at hu
      simp only [Option.map_some, Option.some.injEq] at hu
      rw [← hu, List.getD_eq_getElem?_getD, List.getElem?_eq_getElem hj]
      rfl
    · intro g2 cap2 w' h1 h2 h3 _
      rw [Nat.zero_add] at h1
      have h1' : w'.ownsRow base 3 1 (.slice (some ⟨g2, 0, none⟩) l.length cap2) l.length (icells l) := h1
      obtain ⟨_, _, hv2, hle2, _⟩ := own_form h1'
      cases hv2
      obtain ⟨a2, c2, hv3, _, _, _, hrow⟩ := iown_row (N := fun _ => False) h1' (fun _ _ h => h)
      cases hv3
      rw [Nat.zero_add]
      exact h g2 cap2 w' hrow ((Off.refl (fun k => k = g) w).grown h2 (fun k e => by cases e; exact .inr rfl)) hle2
theorem ct_off {w w' : World} {g g2 : Nat} {X : List Ct} (h : CtAt (fun _ => False) w (some ⟨g2, 0, none⟩) X) (ho : Off (fun k => k = g) w w') (hg : g2 ≠ g) : CtAt (fun _ => False) w' (some ⟨g2, 0, none⟩) X := fun h0 => by
  obtain ⟨b, o, e, _, hc⟩ := h h0
  cases e
  exact ⟨g2, 0, rfl, id, fun j u hu => ho.cell (hc j u hu) hg⟩
theorem ct_new {w w' : World} {a : Option Addr} {X : List Ct} {O : Obj} (h : CtAt (fun _ => False) w a X) (ho : Off (fun k => k = w.heap.size) (w.alloc O) w') : CtAt (fun _ => False) w' a X := fun h0 => by
  have hlt := h.lt h0
  obtain ⟨b, o, rfl, hn, hc⟩ := h.later ((Below.refl _ w).alloc (Nat.le_refl _) O) h0
  exact ⟨b, o, rfl, hn, fun j u hu => ho.cell (hc j u hu) (by have := hlt _ rfl; show ¬ b = w.heap.size; simp at this; omega)⟩
theorem PB.off {w W W' : World} {nn : Int} {a : Option Addr} {m k : Nat} {f t n e : Int} {g : Nat} (h : PB w nn a m k f t n e W) (ho : Off (fun k => k = g) W W') (hg : w.heap.size + 1 < g) : PB w nn a m k f t n e W' :=
  ⟨ho.at h.p (by omega), ho.at h.q (by omega), h.bel.trans (ho.below h.bel.size (fun i e => by omega))⟩
theorem own_later {w w' : World} {base n size : Nat} {ty : TypeId} {v : Value} {xs : List Value} (h : w.ownsRow base ty size v n xs) (hb : Below w.heap.size w w') : w'.ownsRow base ty size v n xs := (Off.of_below (S := fun _ => False) hb).owns h (fun _ _ => id)
theorem bne_nat (a b : Nat) : (((a : Int) != (b : Int)) = true ∧ a ≠ b) ∨ (((a : Int) != (b : Int)) = false ∧ a = b) := by
  by_cases h : a = b
  · right; subst h; simp
  · left; refine ⟨?_, h⟩; simp; omega
theorem beq_int (a b : Int) : ((a == b) = true ∧ a = b) ∨ ((a == b) = false ∧ a ≠ b) := by
  by_cases h : a = b
  · left; subst h; simp
  · right; refine ⟨?_, h⟩; simpa using h
theorem okA_not {m lm : Nat} {L : List Int} {nn f t n e : Int} (hl : L.length = lm) : okA m L nn f t n e = (!(decide (lm ≠ m ∨ e < 0 ∨ f = t ∨ f < 1 ∨ nn < f ∨ t < 1 ∨ nn < t ∨ n < 0 ∨ 1048576 < n) || !(L.all nng))) := by
  rw [Bool.eq_iff_iff]
  simp only [okA, wi, Bool.and_eq_true, decide_eq_true_eq, Bool.not_eq_true', Bool.or_eq_false_iff, decide_eq_false_iff_not, Bool.not_eq_false']
  constructor
  · rintro ⟨a1, a2, a3, a4, ⟨a5, a6⟩, ⟨a7, a8⟩, a9, b1⟩
    exact ⟨by omega, a3⟩
  · rintro ⟨h, a3⟩
    exact ⟨by omega, by omega, a3, by omega, ⟨by omega, by omega⟩, ⟨by omega, by omega⟩, by omega, by omega⟩
theorem wrong_first (lm m : Nat) (e f t nn n : Int) : (((lm : Int) != (m : Int)) = true ∧ decide (lm ≠ m ∨ e < 0 ∨ f = t ∨ f < 1 ∨ nn < f ∨ t < 1 ∨ nn < t ∨ n < 0 ∨ 1048576 < n) = true) ∨ (((lm : Int) != (m : Int)) = false ∧ e < 0 ∧ decide (lm ≠ m ∨ e < 0 ∨ f = t ∨ f < 1 ∨ nn < f ∨ t < 1 ∨ nn < t ∨ n < 0 ∨ 1048576 < n) = true) ∨ (((lm : Int) != (m : Int)) = false ∧ 0 ≤ e ∧ (f == t) = true ∧ decide (lm ≠ m ∨ e < 0 ∨ f = t ∨ f < 1 ∨ nn < f ∨ t < 1 ∨ nn < t ∨ n < 0 ∨ 1048576 < n) = true) ∨ (((lm : Int) != (m : Int)) = false ∧ 0 ≤ e ∧ (f == t) = false ∧ f < 1 ∧ decide (lm ≠ m ∨ e < 0 ∨ f = t ∨ f < 1 ∨ nn < f ∨ t < 1 ∨ nn < t ∨ n < 0 ∨ 1048576 < n) = true) ∨ (((lm : Int) != (m : Int)) = false ∧ 0 ≤ e ∧ (f == t) = false ∧ 1 ≤ f ∧ nn < f ∧ decide (lm ≠ m ∨ e < 0 ∨ f = t ∨ f < 1 ∨ nn < f ∨ t < 1 ∨ nn < t ∨ n < 0 ∨ 1048576 < n) = true) ∨ (((lm : Int) != (m : Int)) = false ∧ 0 ≤ e ∧ (f == t) = false ∧ 1 ≤ f ∧ f ≤ nn ∧ t < 1 ∧ decide (lm ≠ m ∨ e < 0 ∨ f = t ∨ f < 1 ∨ nn < f ∨ t < 1 ∨ nn < t ∨ n < 0 ∨ 1048576 < n) = true) ∨ (((lm : Int) != (m : Int)) = false ∧ 0 ≤ e ∧ (f == t) = false ∧ 1 ≤ f ∧ f ≤ nn ∧ 1 ≤ t ∧ nn < t ∧ decide (lm ≠ m ∨ e < 0 ∨ f = t ∨ f < 1 ∨ nn < f ∨ t < 1 ∨ nn < t ∨ n < 0 ∨ 1048576 < n) = true) ∨ (((lm : Int) != (m : Int)) = false ∧ 0 ≤ e ∧ (f == t) = false ∧ 1 ≤ f ∧ f ≤ nn ∧ 1 ≤ t ∧ t ≤ nn ∧ n < 0 ∧ decide (lm ≠ m ∨ e < 0 ∨ f = t ∨ f < 1 ∨ nn < f ∨ t < 1 ∨ nn < t ∨ n < 0 ∨ 1048576 < n) = true) ∨ (((lm : Int) != (m : Int)) = false ∧ 0 ≤ e ∧ (f == t) = false ∧ 1 ≤ f ∧ f ≤ nn ∧ 1 ≤ t ∧ t ≤ nn ∧ 0 ≤ n ∧ 1048576 < n ∧ decide (lm ≠ m ∨ e < 0 ∨ f = t ∨ f < 1 ∨ nn < f ∨ t < 1 ∨ nn < t ∨ n < 0 ∨ 1048576 < n) = true) ∨ (((lm : Int) != (m : Int)) = false ∧ 0 ≤ e ∧ (f == t) = false ∧ 1 ≤ f ∧ f ≤ nn ∧ 1 ≤ t ∧ t ≤ nn ∧ 0 ≤ n ∧ n ≤ 1048576 ∧ decide (lm ≠ m ∨ e < 0 ∨ f = t ∨ f < 1 ∨ nn < f ∨ t < 1 ∨ nn < t ∨ n < 0 ∨ 1048576 < n) = false) := by
  by_cases p10 : lm = m
  · have p1 : ((lm : Int) != (m : Int)) = false := by simp [p10]
    by_cases p2 : 0 ≤ e
    · skip
      by_cases p30 : f = t
      · have q : (f == t) = true := by simp [p30]
        exact .inr (.inr (.inl ⟨p1, p2, q, decide_eq_true (by omega)⟩))
      · have p3 : (f == t) = false := by simp [p30]
        by_cases p4 : 1 ≤ f
        · skip
          by_cases p5 : f ≤ nn
          · skip
            by_cases p6 : 1 ≤ t
            · skip
              by_cases p7 : t ≤ nn
              · skip
                by_cases p8 : 0 ≤ n
                · skip
                  by_cases p9 : n ≤ 1048576
                  · skip
                    exact .inr (.inr (.inr (.inr (.inr (.inr (.inr (.inr (.inr (⟨p1, p2, p3, p4, p5, p6, p7, p8, p9, decide_eq_false (by omega)⟩)))))))))
                  · have q : 1048576 < n := by omega
                    exact .inr (.inr (.inr (.inr (.inr (.inr (.inr (.inr (.inl ⟨p1, p2, p3, p4, p5, p6, p7, p8, q, decide_eq_true (by omega)⟩))))))))
                · have q : n < 0 := by omega
                  exact .inr (.inr (.inr (.inr (.inr (.inr (.inr (.inl ⟨p1, p2, p3, p4, p5, p6, p7, q, decide_eq_true (by omega)⟩)))))))
              · have q : nn < t := by omega
                exact .inr (.inr (.inr (.inr (.inr (.inr (.inl ⟨p1, p2, p3, p4, p5, p6, q, decide_eq_true (by omega)⟩))))))
            · have q : t < 1 := by omega
              exact .inr (.inr (.inr (.inr (.inr (.inl ⟨p1, p2, p3, p4, p5, q, decide_eq_true (by omega)⟩)))))
          · have q : nn < f := by omega
            exact .inr (.inr (.inr (.inr (.inl ⟨p1, p2, p3, p4, q, decide_eq_true (by omega)⟩))))
        · have q : f < 1 := by omega
          exact .inr (.inr (.inr (.inl ⟨p1, p2, p3, q, decide_eq_true (by omega)⟩)))
    · have q : e < 0 := by omega
      exact .inr (.inl ⟨p1, q, decide_eq_true (by omega)⟩)
  · have q : ((lm : Int) != (m : Int)) = true := by simp; omega
    exact .inl ⟨q, decide_eq_true (by omega)⟩
/-- both answers, of a plan that may be and of what may be asked. -/
theorem rt_ref {nn : Int} {X : List Ct} {L : List Int} {f t n e : Int} {m : Nat} (hm : X.length = m) (h1 : okP nn X = true) (h2 : okA m L nn f t n e = true) : ((rfR X L f t n e m).1 < 0 → rtR nn X L f t n e = (0, 0, 4)) ∧ (¬ (rfR X L f t n e m).1 < 0 → rtR nn X L f t n e = ((rfR X L f t n e m).1, (rfR X L f t n e m).2, 0)) := by
  subst hm
  have hb := bgn_rte (L := L) (frm := f) («to» := t) (now := n) (need := e) (okP_of h1) X.length
  have hfn : far < nvr := by decide
  by_cases h : (rteK X L f t n e X.length).1 < 0
  · have hf := hb.neg.1 h
    have hn : (bgnK X L f t n e X.length).2 = nvr := by rw [hb.eq, if_neg (by omega)]
    refine ⟨fun _ => rt_none h1 h2 hn, fun q => ?_⟩
    exfalso
    apply q
    unfold rfR
    rw [if_pos h]
    show (-1 : Int) < 0
    omega
  · have hf : (rteK X L f t n e X.length).2 < far := by
      have := hb.le
      have hne : (rteK X L f t n e X.length).2 ≠ far := fun q => h (hb.neg.2 q)
      omega
    have he : bgnK X L f t n e X.length = rteK X L f t n e X.length := by rw [hb.eq, if_pos hf]
    have hr : rfR X L f t n e X.length = rteK X L f t n e X.length := by unfold rfR; rw [if_neg h]
    refine ⟨fun q => absurd (hr ▸ q) h, fun _ => ?_⟩
    rw [rt_yes h1 h2 (by rw [he]; omega), he, hr]
set_option maxRecDepth 20000 in
set_option maxHeartbeats 16000000 in
theorem routes_any (w : World) (nn : Int) (a : Option Addr) (k : Nat) (X : List Ct) (hk1 : X.length ≤ k) (hk2 : k ≤ maxLen) (h48 : X.length * 48 ≤ 140737488351232) (hX : CtAt (fun _ => False) w a X) (la : Option Addr) (lk : Nat) (L : List Int) (hl1 : L.length ≤ lk) (hl2 : lk ≤ maxLen) (hl8 : L.length * 8 ≤ 140737488351232) (hL : RowI (fun _ => False) w la L) (f t n e : Int) :
    Calls Try.prog 3 #[pv nn a X.length k, .slice la L.length lk, .agg #[.int .i64 f, .int .i64 t, .int .i64 n, .int .i64 e]] w fun r w' => r = .returned (.bool true) ∧ Hid (Below w.heap.size w w') := by
  obtain ⟨m, hm⟩ : ∃ m, X.length = m := ⟨_, rfl⟩
  obtain ⟨lm, hlm⟩ : ∃ lm, L.length = lm := ⟨_, rfl⟩
  rw [hm, hlm]
  rw [hm] at hk1 h48
  rw [hlm] at hl1 hl8
  have hkx := hk2
  unfold maxLen at hk2 hl2
  have HPB : Hid (PB w nn a m k f t n e ((w.alloc (.cells #[.int .i64 nn, .slice a m k] 24)).alloc (.cells #[.int .i64 f, .int .i64 t, .int .i64 n, .int .i64 e] 27))) := by
    obtain ⟨W2, hW2, z2, zb, d0, d1⟩ := alloc2w w (.cells #[.int .i64 nn, .slice a m k] 24) (.cells #[.int .i64 f, .int .i64 t, .int .i64 n, .int .i64 e] 27)
    rw [← hW2]
    exact ⟨d0, d1, zb⟩
  have HCO : Hid (∀ W, Below w.heap.size w W → Calls Try.prog 7 #[pv nn a m k] W fun r w' => ∃ g c, r = .returned (pv nn (some ⟨g, 0, none⟩) m c) ∧ Hid (CtAt (fun _ => False) w' (some ⟨g, 0, none⟩) X ∧ m ≤ c ∧ c ≤ maxLen ∧ W.heap.size ≤ g ∧ Below W.heap.size W w')) := fun W hb => copied_any nn a m k X W hm h48 (hX.later hb)
  obtain ⟨R, HRR⟩ : ∃ R, Hid (rtR nn X L f t n e = R) := ⟨_, rfl⟩
  have HRO : Hid (∀ (W : World) (g c gl cl : Nat), Below w.heap.size w W → CtAt (fun _ => False) W (some ⟨g, 0, none⟩) X → (m ≤ c ∧ c ≤ maxLen) → RowI (fun _ => False) W (some ⟨gl, 0, none⟩) L → Calls Try.prog 6 #[pv nn (some ⟨g, 0, none⟩) m c, .slice (some ⟨gl, 0, none⟩) lm cl, .int .i64 f, .int .i64 t, .int .i64 n, .int .i64 e] W fun r w' => r = .returned (.tuple #[.int .i64 R.1, .int .i64 R.2.1, .int .i64 R.2.2]) ∧ Hid (Below W.heap.size W w')) := fun W g c gl cl hb hx hc hr => by
    have := route_any nn f t n e (some ⟨g, 0, none⟩) (some ⟨gl, 0, none⟩) m c lm cl X L W hm hc.1 hc.2 hlm (by unfold maxLen; omega) hx hr
    rw [HRR.out] at this
    exact this
  have HRI : Hid (∀ W, Below w.heap.size w W → Calls Try.prog 8 #[pv nn a m k] W fun r w' => r = .returned (.bool (okP nn X)) ∧ Hid (Below W.heap.size W w')) := fun W hb => rright_any nn a m k X W hm hk1 hkx (hX.later hb)
  have HRF : Hid (okP nn X = true → okA m L nn f t n e = true → ∀ W, Below w.heap.size w W → Calls Try.prog 9 #[pv nn a m k, .slice la lm lk, .int .i64 f, .int .i64 t, .int .i64 n, .int .i64 e] W fun r w' => r = .returned (.tuple #[.int .i64 (rfR X L f t n e m).1, .int .i64 (rfR X L f t n e m).2]) ∧ Hid (Below W.heap.size W w')) := fun h1 h2 W hb => by
    obtain ⟨a1, a2, a3, a4, a5, a6, a7, a8, a9⟩ := okA_of h2
    have ho := okP_of h1
    have e : lm = m := by omega
    subst e
    exact rroute_any W nn f t n e a la lm k lk X L ho hm hlm a6 (by have := ho.n6; omega) a8 (hX.later hb) (hL.later hb)
  have HLR : Hid (∀ W, Below w.heap.size w W → RowI (fun _ => False) W la L) := fun W hb => hL.later hb
  have HX : Hid (X.length = m ∧ L.length = lm) := ⟨hm, hlm⟩
  unfold pv at HCO HRO HRI HRF ⊢
  clear hX hL hm hlm
  go_enter Try.func3, Try.ntmps3
  go_wp2_with fail
  go_at_call 5
  refine (wakes_any _).mono ?_
  rintro r w1 ⟨rfl, H1⟩
  have HP1 : Hid (PB w nn a m k f t n e w1) := HPB.out.later H1.out
  obtain ⟨p0, p1, a0, a1, a2, a3⟩ := HP1.out.cells
  clear HPB
  go_wp2_with fail
  have hPd : PB w nn a m k f t n e w1.drew := HP1.out.later (Below.refl _ w1).drew
  go_cut [7, 8, 9] from 17 to 34 (fun ri rt re wc => ri = .int .i64 R.1 ∧ rt = .int .i64 R.2.1 ∧ re = .int .i64 R.2.2 ∧ Hid (PB w nn a m k f t n e wc))
  case first =>
    refine wp_region_held_drew (S := fun W' => W'.cell? ⟨w.heap.size, 0, none⟩ = some (.int .i64 nn) ∧ W'.cell? ⟨w.heap.size, 1, none⟩ = some (.slice a m k) ∧ W'.cell? ⟨w.heap.size + 1, 0, none⟩ = some (.int .i64 f) ∧ W'.cell? ⟨w.heap.size + 1, 1, none⟩ = some (.int .i64 t) ∧ W'.cell? ⟨w.heap.size + 1, 2, none⟩ = some (.int .i64 n) ∧ W'.cell? ⟨w.heap.size + 1, 3, none⟩ = some (.int .i64 e)) (by kernel_rfl) HP1.out.cells (fun hHeld => ?_)
    refine takeH 0 (.agg #[.int .i64 nn, .slice a m k]) rfl (by kernel_rfl) (by kernel_rfl) (by kernel_rfl) (fun _ _ _ h => h) (Or.inl ⟨by rfl, ?_⟩) (by assumption) ?_
    · (intro w hSw; obtain ⟨hS0, hS1, hS2, hS3, hS4, hS5⟩ := hSw; go_simp)
    try simp only [Act.put, List.setIfInBounds_toArray, List.set_cons_zero, List.set_cons_succ]
    refine takeH 3 (.slice la lm lk) rfl (by kernel_rfl) (by kernel_rfl) (by kernel_rfl) (fun _ _ _ h => h) (Or.inl ⟨by rfl, ?_⟩) (by assumption) ?_
    · (intro w hSw; obtain ⟨hS0, hS1, hS2, hS3, hS4, hS5⟩ := hSw; go_simp)
    try simp only [Act.put, List.setIfInBounds_toArray, List.set_cons_zero, List.set_cons_succ]
    refine takeH 5 (.pointer (some ⟨w.heap.size + 1, 0, none⟩)) rfl (by kernel_rfl) (by kernel_rfl) (by kernel_rfl) (fun _ _ _ h => h) (Or.inl ⟨by rfl, ?_⟩) (by assumption) ?_
    · (intro w hSw; obtain ⟨hS0, hS1, hS2, hS3, hS4, hS5⟩ := hSw; go_simp)
    try simp only [Act.put, List.setIfInBounds_toArray, List.set_cons_zero, List.set_cons_succ]
    refine takeH 6 (.int .i64 f) rfl (by kernel_rfl) (by kernel_rfl) (by kernel_rfl) (fun _ _ _ h => h) (Or.inl ⟨by rfl, ?_⟩) (by assumption) ?_
    · (intro w hSw; obtain ⟨hS0, hS1, hS2, hS3, hS4, hS5⟩ := hSw; go_simp)
    try simp only [Act.put, List.setIfInBounds_toArray, List.set_cons_zero, List.set_cons_succ]
    refine takeH 7 (.pointer (some ⟨w.heap.size + 1, 1, none⟩)) rfl (by kernel_rfl) (by kernel_rfl) (by kernel_rfl) (fun _ _ _ h => h) (Or.inl ⟨by rfl, ?_⟩) (by assumption) ?_
    · (intro w hSw; obtain ⟨hS0, hS1, hS2, hS3, hS4, hS5⟩ := hSw; go_simp)
    try simp only [Act.put, List.setIfInBounds_toArray, List.set_cons_zero, List.set_cons_succ]
    refine takeH 8 (.int .i64 t) rfl (by kernel_rfl) (by kernel_rfl) (by kernel_rfl) (fun _ _ _ h => h) (Or.inl ⟨by rfl, ?_⟩) (by assumption) ?_
    · (intro w hSw; obtain ⟨hS0, hS1, hS2, hS3, hS4, hS5⟩ := hSw; go_simp)
    try simp only [Act.put, List.setIfInBounds_toArray, List.set_cons_zero, List.set_cons_succ]
    refine takeH 9 (.pointer (some ⟨w.heap.size + 1, 2, none⟩)) rfl (by kernel_rfl) (by kernel_rfl) (by kernel_rfl) (fun _ _ _ h => h) (Or.inl ⟨by rfl, ?_⟩) (by assumption) ?_
    · (intro w hSw; obtain ⟨hS0, hS1, hS2, hS3, hS4, hS5⟩ := hSw; go_simp)
    try simp only [Act.put, List.setIfInBounds_toArray, List.set_cons_zero, List.set_cons_succ]
    refine takeH 10 (.int .i64 n) rfl (by kernel_rfl) (by kernel_rfl) (by kernel_rfl) (fun _ _ _ h => h) (Or.inl ⟨by rfl, ?_⟩) (by assumption) ?_
    · (intro w hSw; obtain ⟨hS0, hS1, hS2, hS3, hS4, hS5⟩ := hSw; go_simp)
    try simp only [Act.put, List.setIfInBounds_toArray, List.set_cons_zero, List.set_cons_succ]
    refine takeH 11 (.pointer (some ⟨w.heap.size + 1, 3, none⟩)) rfl (by kernel_rfl) (by kernel_rfl) (by kernel_rfl) (fun _ _ _ h => h) (Or.inl ⟨by rfl, ?_⟩) (by assumption) ?_
    · (intro w hSw; obtain ⟨hS0, hS1, hS2, hS3, hS4, hS5⟩ := hSw; go_simp)
    try simp only [Act.put, List.setIfInBounds_toArray, List.set_cons_zero, List.set_cons_succ]
    refine takeH 12 (.int .i64 e) rfl (by kernel_rfl) (by kernel_rfl) (by kernel_rfl) (fun _ _ _ h => h) (Or.inl ⟨by rfl, ?_⟩) (by assumption) ?_
    · (intro w hSw; obtain ⟨hS0, hS1, hS2, hS3, hS4, hS5⟩ := hSw; go_simp)
    try simp only [Act.put, List.setIfInBounds_toArray, List.set_cons_zero, List.set_cons_succ]
    refine wpAnyH_ready (rs := [1, 2]) (by kernel_rfl) (by simp) ?_
    refine stepH 1 rfl (fun K hK => ?_) (stepH 2 rfl (fun K hK => ?_) AllReadyH.nil)
    · go_simp
      go_at_call 7
      refine (HCO.out _ hPd.bel).mono ?_
      rintro r w2 ⟨g2, c2, rfl, H2⟩
      have hP2 : PB w nn a m k f t n e w2 := hPd.later H2.out.2.2.2.2
      refine hK.out _ _ (hP2).cells (fun hHeld => ?_)
      clear hK K
      try simp only [Act.put, List.setIfInBounds_toArray, List.set_cons_zero, List.set_cons_succ]
      refine wpAnyH_ready (rs := [2]) (by kernel_rfl) (by simp) ?_
      refine stepH 2 rfl (fun K hK => ?_) AllReadyH.nil
      go_simp
      have hP3 : PB w nn a m k f t n e (w2.alloc (.cells #[] 3)) := hP2.later ((Below.refl _ w2).alloc (Nat.le_refl _) _)
      refine hK.out _ _ (hP3).cells (fun hHeld => ?_)
      clear hK K
      try simp only [Act.put, List.setIfInBounds_toArray, List.set_cons_zero, List.set_cons_succ]
      refine wpAnyH_ready (rs := [4]) (by kernel_rfl) (by simp) ?_
      refine stepH 4 rfl (fun K hK => ?_) AllReadyH.nil
      refine step_append_i rfl _ _ rfl w2.heap.size w2.heap.size rfl (imade_none w2) la lk L lm HX.out.2 rfl (HLR.out _ hP3.bel) hl8 (by simp) ?_
      intro g4 c4 w4 hr4 hb4 hc4
      have hP4 : PB w nn a m k f t n e w4 := hP3.off hb4 (by have := (Array.getElem?_eq_some_iff.1 hP2.q).1; omega)
      have HLX : Hid (RowI (fun _ => False) w4 (some ⟨g4, 0, none⟩) L) := hr4
      have HCX : Hid (CtAt (fun _ => False) w4 (some ⟨g2, 0, none⟩) X) := ct_new H2.out.1 hb4
      have HC2 : Hid (m ≤ c2 ∧ c2 ≤ maxLen) := ⟨H2.out.2.1, H2.out.2.2.1⟩
      refine hK.out _ _ (hP4).cells (fun hHeld => ?_)
      clear hK K
      try simp only [Act.put, List.setIfInBounds_toArray, List.set_cons_zero, List.set_cons_succ]
      refine wpAnyH_ready (rs := [13]) (by kernel_rfl) (by simp) ?_
      refine stepH 13 rfl (fun K hK => ?_) AllReadyH.nil
      go_simp
      go_at_call 6
      refine (HRO.out _ _ _ _ _ hP4.bel HCX.out HC2.out HLX.out).mono ?_
      rintro r w5 ⟨rfl, H5⟩
      have hP5 : PB w nn a m k f t n e w5 := hP4.later H5.out
      refine hK.out _ _ (hP5).cells (fun hHeld => ?_)
      clear hK K
      try simp only [Act.put, List.setIfInBounds_toArray, List.set_cons_zero, List.set_cons_succ]
      refine takeH 14 (.tuple #[.int .i64 R.1, .int .i64 R.2.1, .int .i64 R.2.2]) rfl (by kernel_rfl) (by kernel_rfl) (by kernel_rfl) (fun _ _ _ h => h) (Or.inl ⟨by rfl, ?_⟩) (by assumption) ?_
      · (intro w hSw; obtain ⟨hS0, hS1, hS2, hS3, hS4, hS5⟩ := hSw; go_simp)
      try simp only [Act.put, List.setIfInBounds_toArray, List.set_cons_zero, List.set_cons_succ]
      refine takeH 15 (.int .i64 R.1) rfl (by kernel_rfl) (by kernel_rfl) (by kernel_rfl) (fun _ _ _ h => h) (Or.inl ⟨by rfl, ?_⟩) (by assumption) ?_
      · (intro w hSw; obtain ⟨hS0, hS1, hS2, hS3, hS4, hS5⟩ := hSw; go_simp)
      try simp only [Act.put, List.setIfInBounds_toArray, List.set_cons_zero, List.set_cons_succ]
      refine takeH 16 (.int .i64 R.2.1) rfl (by kernel_rfl) (by kernel_rfl) (by kernel_rfl) (fun _ _ _ h => h) (Or.inl ⟨by rfl, ?_⟩) (by assumption) ?_
      · (intro w hSw; obtain ⟨hS0, hS1, hS2, hS3, hS4, hS5⟩ := hSw; go_simp)
      try simp only [Act.put, List.setIfInBounds_toArray, List.set_cons_zero, List.set_cons_succ]
      refine takeH 17 (.int .i64 R.2.2) rfl (by kernel_rfl) (by kernel_rfl) (by kernel_rfl) (fun _ _ _ h => h) (Or.inl ⟨by rfl, ?_⟩) (by assumption) ?_
      · (intro w hSw; obtain ⟨hS0, hS1, hS2, hS3, hS4, hS5⟩ := hSw; go_simp)
      try simp only [Act.put, List.setIfInBounds_toArray, List.set_cons_zero, List.set_cons_succ]
      refine takeH 18 (.int .i64 R.1) rfl (by kernel_rfl) (by kernel_rfl) (by kernel_rfl) (fun _ _ _ h => h) (Or.inl ⟨by rfl, ?_⟩) (by assumption) ?_
      · (intro w hSw; obtain ⟨hS0, hS1, hS2, hS3, hS4, hS5⟩ := hSw; go_simp)
      try simp only [Act.put, List.setIfInBounds_toArray, List.set_cons_zero, List.set_cons_succ]
      refine takeH 19 (.int .i64 R.2.1) rfl (by kernel_rfl) (by kernel_rfl) (by kernel_rfl) (fun _ _ _ h => h) (Or.inl ⟨by rfl, ?_⟩) (by assumption) ?_
      · (intro w hSw; obtain ⟨hS0, hS1, hS2, hS3, hS4, hS5⟩ := hSw; go_simp)
      try simp only [Act.put, List.setIfInBounds_toArray, List.set_cons_zero, List.set_cons_succ]
      refine takeH 20 (.int .i64 R.2.2) rfl (by kernel_rfl) (by kernel_rfl) (by kernel_rfl) (fun _ _ _ h => h) (Or.inl ⟨by rfl, ?_⟩) (by assumption) ?_
      · (intro w hSw; obtain ⟨hS0, hS1, hS2, hS3, hS4, hS5⟩ := hSw; go_simp)
      try simp only [Act.put, List.setIfInBounds_toArray, List.set_cons_zero, List.set_cons_succ]
      refine wpAnyH_done (by kernel_rfl) ?_ _
      go_wp2
      go_meet
      case rel => exact ⟨rfl, rfl, rfl, hP5⟩
    · go_simp
      have hP3 : PB w nn a m k f t n e (w1.drew.alloc (.cells #[] 3)) := hPd.later ((Below.refl _ _).alloc (Nat.le_refl _) _)
      refine hK.out _ _ (hP3).cells (fun hHeld => ?_)
      clear hK K
      try simp only [Act.put, List.setIfInBounds_toArray, List.set_cons_zero, List.set_cons_succ]
      refine wpAnyH_ready (rs := [1]) (by kernel_rfl) (by simp) ?_
      refine stepH 1 rfl (fun K hK => ?_) AllReadyH.nil
      go_simp
      go_at_call 7
      refine (HCO.out _ hP3.bel).mono ?_
      rintro r w2 ⟨g2, c2, rfl, H2⟩
      have hP2 : PB w nn a m k f t n e w2 := hP3.later H2.out.2.2.2.2
      refine hK.out _ _ (hP2).cells (fun hHeld => ?_)
      clear hK K
      try simp only [Act.put, List.setIfInBounds_toArray, List.set_cons_zero, List.set_cons_succ]
      refine wpAnyH_ready (rs := [4]) (by kernel_rfl) (by simp) ?_
      refine stepH 4 rfl (fun K hK => ?_) AllReadyH.nil
      refine step_append_i rfl _ _ rfl w1.drew.heap.size w1.drew.heap.size rfl (own_later (imade_none w1.drew) H2.out.2.2.2.2) la lk L lm HX.out.2 rfl (HLR.out _ hP2.bel) hl8 (by have := H2.out.2.2.2.2.size; simp at this ⊢; omega) ?_
      intro g4 c4 w4 hr4 hb4 hc4
      have hP4 : PB w nn a m k f t n e w4 := hP2.off hb4 (by have := (Array.getElem?_eq_some_iff.1 hPd.q).1; omega)
      have HLX : Hid (RowI (fun _ => False) w4 (some ⟨g4, 0, none⟩) L) := hr4
      have HCX : Hid (CtAt (fun _ => False) w4 (some ⟨g2, 0, none⟩) X) := ct_off H2.out.1 hb4 (show g2 ≠ w1.heap.size from by have := H2.out.2.2.2.1; simp at this; omega)
      have HC2 : Hid (m ≤ c2 ∧ c2 ≤ maxLen) := ⟨H2.out.2.1, H2.out.2.2.1⟩
      refine hK.out _ _ (hP4).cells (fun hHeld => ?_)
      clear hK K
      try simp only [Act.put, List.setIfInBounds_toArray, List.set_cons_zero, List.set_cons_succ]
      refine wpAnyH_ready (rs := [13]) (by kernel_rfl) (by simp) ?_
      refine stepH 13 rfl (fun K hK => ?_) AllReadyH.nil
      go_simp
      go_at_call 6
      refine (HRO.out _ _ _ _ _ hP4.bel HCX.out HC2.out HLX.out).mono ?_
      rintro r w5 ⟨rfl, H5⟩
      have hP5 : PB w nn a m k f t n e w5 := hP4.later H5.out
      refine hK.out _ _ (hP5).cells (fun hHeld => ?_)
      clear hK K
      try simp only [Act.put, List.setIfInBounds_toArray, List.set_cons_zero, List.set_cons_succ]
      refine takeH 14 (.tuple #[.int .i64 R.1, .int .i64 R.2.1, .int .i64 R.2.2]) rfl (by kernel_rfl) (by kernel_rfl) (by kernel_rfl) (fun _ _ _ h => h) (Or.inl ⟨by rfl, ?_⟩) (by assumption) ?_
      · (intro w hSw; obtain ⟨hS0, hS1, hS2, hS3, hS4, hS5⟩ := hSw; go_simp)
      try simp only [Act.put, List.setIfInBounds_toArray, List.set_cons_zero, List.set_cons_succ]
      refine takeH 15 (.int .i64 R.1) rfl (by kernel_rfl) (by kernel_rfl) (by kernel_rfl) (fun _ _ _ h => h) (Or.inl ⟨by rfl, ?_⟩) (by assumption) ?_
      · (intro w hSw; obtain ⟨hS0, hS1, hS2, hS3, hS4, hS5⟩ := hSw; go_simp)
      try simp only [Act.put, List.setIfInBounds_toArray, List.set_cons_zero, List.set_cons_succ]
      refine takeH 16 (.int .i64 R.2.1) rfl (by kernel_rfl) (by kernel_rfl) (by kernel_rfl) (fun _ _ _ h => h) (Or.inl ⟨by rfl, ?_⟩) (by assumption) ?_
      · (intro w hSw; obtain ⟨hS0, hS1, hS2, hS3, hS4, hS5⟩ := hSw; go_simp)
      try simp only [Act.put, List.setIfInBounds_toArray, List.set_cons_zero, List.set_cons_succ]
      refine takeH 17 (.int .i64 R.2.2) rfl (by kernel_rfl) (by kernel_rfl) (by kernel_rfl) (fun _ _ _ h => h) (Or.inl ⟨by rfl, ?_⟩) (by assumption) ?_
      · (intro w hSw; obtain ⟨hS0, hS1, hS2, hS3, hS4, hS5⟩ := hSw; go_simp)
      try simp only [Act.put, List.setIfInBounds_toArray, List.set_cons_zero, List.set_cons_succ]
      refine takeH 18 (.int .i64 R.1) rfl (by kernel_rfl) (by kernel_rfl) (by kernel_rfl) (fun _ _ _ h => h) (Or.inl ⟨by rfl, ?_⟩) (by assumption) ?_
      · (intro w hSw; obtain ⟨hS0, hS1, hS2, hS3, hS4, hS5⟩ := hSw; go_simp)
      try simp only [Act.put, List.setIfInBounds_toArray, List.set_cons_zero, List.set_cons_succ]
      refine takeH 19 (.int .i64 R.2.1) rfl (by kernel_rfl) (by kernel_rfl) (by kernel_rfl) (fun _ _ _ h => h) (Or.inl ⟨by rfl, ?_⟩) (by assumption) ?_
      · (intro w hSw; obtain ⟨hS0, hS1, hS2, hS3, hS4, hS5⟩ := hSw; go_simp)
      try simp only [Act.put, List.setIfInBounds_toArray, List.set_cons_zero, List.set_cons_succ]
      refine takeH 20 (.int .i64 R.2.2) rfl (by kernel_rfl) (by kernel_rfl) (by kernel_rfl) (fun _ _ _ h => h) (Or.inl ⟨by rfl, ?_⟩) (by assumption) ?_
      · (intro w hSw; obtain ⟨hS0, hS1, hS2, hS3, hS4, hS5⟩ := hSw; go_simp)
      try simp only [Act.put, List.setIfInBounds_toArray, List.set_cons_zero, List.set_cons_succ]
      refine wpAnyH_done (by kernel_rfl) ?_ _
      go_wp2
      go_meet
      case rel => exact ⟨rfl, rfl, rfl, hP5⟩
  case rest =>
    obtain ⟨rfl, rfl, rfl, HP5⟩ := hcut
    clear p0 p1 a0 a1 a2 a3 hPd HP1 HCO HRO
    obtain ⟨p0, p1, a0, a1, a2, a3⟩ := HP5.out.cells
    go_wp2_with fail
    go_at_call 8
    refine (HRI.out _ HP5.out.bel).mono ?_
    rintro r w6 ⟨rfl, H6⟩
    have HP6 : Hid (PB w nn a m k f t n e w6) := HP5.out.later H6.out
    clear p0 p1 a0 a1 a2 a3
    obtain ⟨p0, p1, a0, a1, a2, a3⟩ := HP6.out.cells
    cases hp : okP nn X with
    | false =>
      have hR : R = (0, 0, 230) := by rw [← HRR.out]; exact rt_no hp
      subst hR
      clear hp HRF
      go_wp2
      go_ret
      exact ⟨rfl, HP6.out.bel⟩
    | true =>
      obtain ⟨W0, HW0⟩ : ∃ W0, Hid (decide (lm ≠ m ∨ e < 0 ∨ f = t ∨ f < 1 ∨ nn < f ∨ t < 1 ∨ nn < t ∨ n < 0 ∨ 1048576 < n) = W0) := ⟨_, rfl⟩
      have HOK : Hid (okP nn X = true) := hp
      have HA : Hid (okA m L nn f t n e = (!(W0 || !(L.all nng)))) := by
        show _ = _
        rw [← HW0.out]
        exact okA_not HX.out.2
      clear hp
      go_upto_region 6 with fail
      go_cut [10] from 48 to 99 (fun v wc => v = .bool W0 ∧ wc = w6)
      case first =>
        rcases wrong_first lm m e f t nn n with ⟨q, hw⟩ | ⟨p1, q, hw⟩ | ⟨p1, p2, q, hw⟩ | ⟨p1, p2, p3, q, hw⟩ | ⟨p1, p2, p3, p4, q, hw⟩ | ⟨p1, p2, p3, p4, p5, q, hw⟩ | ⟨p1, p2, p3, p4, p5, p6, q, hw⟩ | ⟨p1, p2, p3, p4, p5, p6, p7, q, hw⟩ | ⟨p1, p2, p3, p4, p5, p6, p7, p8, q, hw⟩ | ⟨p1, p2, p3, p4, p5, p6, p7, p8, p9, hw⟩
        all_goals
          have HW : Hid _ := HW0.out.symm.trans hw
          clear hw
          go_wp2_with fail
          go_meet
          case rel =>
            refine ⟨?_, rfl⟩
            rw [HW.out]
            try exact congrArg Value.bool (by rw [decide_eq_false (show ¬ e < 0 by omega), decide_eq_false (show ¬ f < 1 by omega), decide_eq_false (show ¬ nn < f by omega), decide_eq_false (show ¬ t < 1 by omega), decide_eq_false (show ¬ nn < t by omega), decide_eq_false (show ¬ n < 0 by omega), decide_eq_false (show ¬ 1048576 < n by omega)]; rfl)
      case rest =>
        obtain ⟨rfl, rfl⟩ := hcut
        have HR6 : Hid (RowI (fun _ => False) wc la L) := HLR.out _ HP6.out.bel
        have HRX : Hid (∀ V : Bool, okA m L nn f t n e = V → (V = false → R = (0, 0, 2)) ∧ (V = true → ((rfR X L f t n e m).1 < 0 → R = (0, 0, 4)) ∧ (¬ (rfR X L f t n e m).1 < 0 → R = ((rfR X L f t n e m).1, (rfR X L f t n e m).2, 0)))) := fun V hV => by
          rw [← HRR.out]
          refine ⟨fun h => rt_arg HOK.out (by rw [HX.out.1, hV, h]), fun h => rt_ref HX.out.1 HOK.out (by rw [hV, h])⟩
        have HXL := HX.out.2
        go_wp2_with fail
        go_loopw [10, 102] (fun v i wl => ∃ j : Nat, j ≤ lm ∧ i = .int .i64 j ∧ v = .bool (W0 || !((L.take j).all nng)) ∧ wl = wc) (fun _ i _ => lm - (intOf i).toNat)
        case atStart => exact ⟨0, by omega, rfl, by simp, rfl⟩
        case round =>
          obtain ⟨j, hj, rfl, rfl, rfl⟩ := hrel
          by_cases hlt : j < lm
          · obtain ⟨b, off, rfl, _, hc⟩ := HR6.out (by omega)
            have hcj := hc j (by omega)
            obtain ⟨x, hx⟩ : ∃ x, L.getD j 0 = x := ⟨_, rfl⟩
            rw [hx] at hcj
            have HNX : Hid ((L.take (j + 1)).all nng = ((L.take j).all nng && nng x)) := by
              show _ = _
              rw [List.take_add_one, List.getElem?_eq_getElem (by omega), List.all_append]
              rw [List.getD_eq_getElem?_getD, List.getElem?_eq_getElem (by omega)] at hx
              rw [← hx]
              simp
            have hji : (j : Int) < (lm : Int) := by omega
            obtain ⟨V, hV⟩ : ∃ V, (W0 || !((L.take j).all nng)) = V := ⟨_, rfl⟩
            have HVV : Hid ((W0 || !((L.take j).all nng)) = V) := hV
            rw [hV]
            clear hV hc hx
            cases V with
            | true =>
              have HN1 : Hid ((W0 || !((L.take (j + 1)).all nng)) = true) := by
                show _ = _
                have := HVV.out
                rw [HNX.out]
                cases h1 : W0 <;> cases h2 : (L.take j).all nng <;> simp_all
              go_wp2_with fail
              go_roundw
              case rel => exact ⟨j + 1, by omega, by go_num, by rw [HN1.out], trivial⟩
              case measure => simp [intOf]; omega
            | false =>
              by_cases hx0 : x < 0
              · have HN1 : Hid ((W0 || !((L.take (j + 1)).all nng)) = true) := by
                  show _ = _
                  rw [HNX.out, show nng x = false from decide_eq_false (by omega)]
                  simp
                go_wp2_with fail
                go_roundw
                case rel => exact ⟨j + 1, by omega, by go_num, by rw [HN1.out], trivial⟩
                case measure => simp [intOf]; omega
              · have HN1 : Hid ((W0 || !((L.take (j + 1)).all nng)) = false) := by
                  show _ = _
                  have := HVV.out
                  rw [HNX.out, show nng x = true from decide_eq_true (by omega)]
                  simpa using this
                go_wp2_with fail
                go_roundw
                case rel => exact ⟨j + 1, by omega, by go_num, by rw [HN1.out], trivial⟩
                case measure => simp [intOf]; omega
          · obtain rfl : j = lm := by omega
            have hta : L.take j = L := by rw [← HXL, List.take_length]
            rw [hta]
            obtain ⟨V, hV⟩ : ∃ V, (W0 || !(L.all nng)) = V := ⟨_, rfl⟩
            have hA := HA.out
            rw [hV] at hA ⊢
            clear hta HA hV
            cases V with
            | true =>
              have hR : R = (0, 0, 2) := (HRX.out false (by rw [hA]; rfl)).1 rfl
              subst hR
              clear hA
              go_wp2_with fail
              go_ret
              exact ⟨rfl, HP6.out.bel⟩
            | false =>
              have hA2 : okA m L nn f t n e = true := by rw [hA]; rfl
              obtain ⟨hr1, hr2⟩ := (HRX.out true hA2).2 rfl
              have HRO2 := HRF.out HOK.out hA2
              obtain ⟨K, hK⟩ : ∃ K, rfR X L f t n e m = K := ⟨_, rfl⟩
              rw [hK] at hr1 hr2 HRO2
              obtain ⟨K1, K2⟩ := K
              simp only at hr1 hr2 HRO2
              have HRH : Hid (∀ W, Below w.heap.size w W → Calls Try.prog 9 #[.agg #[.int .i64 nn, .slice a m k], .slice la j lk, .int .i64 f, .int .i64 t, .int .i64 n, .int .i64 e] W fun r w' => r = .returned (.tuple #[.int .i64 K1, .int .i64 K2]) ∧ Hid (Below W.heap.size W w')) := HRO2
              by_cases hk : K1 < 0
              · have hR := hr1 hk
                subst hR
                clear hr1 hr2 hA hA2 hK HRO2
                go_wp2_with (go_at_call 9; refine (HRH.out _ HP6.out.bel).mono ?_; rintro r w7 ⟨rfl, H7⟩)
                go_ret
                exact ⟨rfl, below_of HP6.out.bel H7.out⟩
              · have hR := hr2 (by omega)
                subst hR
                clear hr1 hr2 hA hA2 hK HRO2
                go_wp2_with (go_at_call 9; refine (HRH.out _ HP6.out.bel).mono ?_; rintro r w7 ⟨rfl, H7⟩)
                go_ret
                exact ⟨rfl, below_of HP6.out.bel H7.out⟩
end Go.Proofs.Ytmmcdnniconalaa
