/- The walk of link's put. -/
import Derived.Test.YtopfpdkknfjgoaaLOf
namespace Go.Proofs.Ytopfpdkknfjgoaa
open Go.RowKit
set_option linter.unusedVariables false

theorem off_turned {w w' : World} {b : Nat} (h : w.mapTurned w' b) : Off (fun k => k = b) w w' := (Off.refl (fun k => k = b) w).grown h.grown (fun k e => by cases e; exact .inr rfl)
/-- the map has other flights for the pair now. -/
theorem Lk.stored {N : Nat → Prop} {w w1 w2 : World} {lb mb n : Nat} {L L' : List Fl} (h : Lk N w lb mb n L) (hb1 : Below w.heap.size w w1) {a b : Int} (ha : In64 a) (hb : In64 b) {ad : Option Addr} {X : List FX} (hX : FxAt N w ad X) {D D' : DataW Value}
    (hD : ∀ v kk, keyOf Try.prog 74 v = some kk → ∃ ad X, D.atKey kk (.held (.slice none 0 0)) = .held (.slice ad X.length X.length) ∧ Maps.has D kk = decide (0 < X.length) ∧ FxAt N w ad X ∧ X.map FX.x = L.filter (fun x => (kF x).sameKey kk))
    (hD' : w2.ownsMap Try.prog 74 slR mb (n + 1) D') (ht : w1.mapTurned w2 mb) (hm : ∃ es c, w1.heap[mb]? = some (.map es c))
    (h1 : D'.atKey (kP a b) (.held (.slice none 0 0)) = .held (.slice ad X.length X.length)) (h2 : Maps.has D' (kP a b) = decide (0 < X.length)) (h3 : ∀ kk, kk ≠ kP a b → D'.atKey kk (.held (.slice none 0 0)) = D.atKey kk (.held (.slice none 0 0)) ∧ Maps.has D' kk = Maps.has D kk)
    (hS : L'.filter (pf a b) = X.map FX.x) (hO : ∀ c d : Int, ¬ (c = a ∧ d = b) → L'.filter (pf c d) = L.filter (pf c d)) (hok : ∀ x ∈ L', OkF x) (hlen : L'.length ≤ 512) : Lk N w2 lb mb (n + 1) L' := by
  have ho := off_turned ht
  obtain ⟨es, c, hmap⟩ := hm
  have hSS : ∀ k C t fr, w1.heap[k]? = some (.cells C t fr) → k = mb → N k := fun k C t fr hk e => by subst e; rw [hmap] at hk; cases hk
  have hlm : lb ≠ mb := fun e => by
    have := old_block hb1 h.here
    rw [e, hmap] at this
    cases this
  have hsame : ∀ kk, kk ≠ kP a b → L'.filter (fun x => (kF x).sameKey kk) = L.filter (fun x => (kF x).sameKey kk) := fun kk hk => by
    by_cases hx : ∃ x ∈ L ++ L', (kF x).sameKey kk = true
    · obtain ⟨x, hx1, hx2⟩ := hx
      have hxo : OkF x := (List.mem_append.1 hx1).elim (h.ok x) (hok x)
      have hkx := WideAt.sameKey_eq hx2
      subst hkx
      have e1 := filter_pf hok hxo.in1 hxo.in2
      have e2 := filter_pf h.ok hxo.in1 hxo.in2
      show L'.filter (fun y => (kF y).sameKey (kP x.frm x.to)) = L.filter (fun y => (kF y).sameKey (kP x.frm x.to))
      rw [e1, e2]
      exact hO _ _ (fun hc => hk (by unfold kF; rw [hc.1, hc.2]))
    · have hno : ∀ x ∈ L ++ L', (kF x).sameKey kk = false := fun x hxm => by
        cases hs : (kF x).sameKey kk
        · rfl
        · exact absurd ⟨x, hxm, hs⟩ hx
      rw [List.filter_eq_nil_iff.2 (fun x hxm => by rw [hno x (List.mem_append.2 (.inr hxm))]; simp), List.filter_eq_nil_iff.2 (fun x hxm => by rw [hno x (List.mem_append.2 (.inl hxm))]; simp)]
  refine ⟨ho.at (old_block hb1 h.here) hlm, h.notl, h.notm, ⟨D', hD', fun v kk hk => ?_⟩, hok, hlen⟩
  by_cases hkk : kk = kP a b
  · subst hkk
    exact ⟨ad, X, h1, h2, (hX.later hb1).off ho hSS, by rw [filter_pf hok ha hb, hS]⟩
  · obtain ⟨ad', X', q1, q2, q3, q4⟩ := hD v kk hk
    obtain ⟨r1, r2⟩ := h3 kk hkk
    exact ⟨ad', X', r1.trans q1, r2.trans q2, (q3.later hb1).off ho hSS, by rw [q4, hsame kk hkk]⟩

set_option maxHeartbeats 2000000 in
theorem put_any (w : World) (N : Nat → Prop) (lb mb n : Nat) (L L' : List Fl) (h : Lk N w lb mb n L) (hn : n < 1000000000) (a b : Int) (ha : In64 a) (hb : In64 b) (ad : Option Addr) (X : List FX) (c : Nat) (hX : FxAt N w ad X) (hc : X.length ≤ c) (hcm : c ≤ maxLen)
    (hS : L'.filter (pf a b) = X.map FX.x) (hO : ∀ c d : Int, ¬ (c = a ∧ d = b) → L'.filter (pf c d) = L.filter (pf c d)) (hok : ∀ x ∈ L', OkF x) (hlen : L'.length ≤ 512) :
    Calls Try.prog 39 #[.pointer (some ⟨lb, 0, none⟩), .agg #[.int .i64 a, .int .i64 b], .slice ad X.length c] w fun e w' => e = .returned (.tuple #[]) ∧ Hid (Lk N w' lb mb (n + 1) L' ∧ Off (fun k => k = mb) w w') := by
  obtain ⟨D, hD, hDX⟩ := h.map
  have c0 : w.cell? ⟨lb, 0, none⟩ = some (.map (some mb)) := by rw [cell_of h.here]; rfl
  have hlt := h.lb_lt
  have hbel : Below w.heap.size w ((w.alloc (.cells #[.int .i64 a, .int .i64 b] 74)).drew) := ((Below.refl _ w).alloc (Nat.le_refl _) _).drew
  have hD1 : ((w.alloc (.cells #[.int .i64 a, .int .i64 b] 74)).drew).ownsMap Try.prog 74 slR mb n D := (hD.alloc _).drew
  have hmap1 : ∃ es c, ((w.alloc (.cells #[.int .i64 a, .int .i64 b] 74)).drew).heap[mb]? = some (.map es c) := by
    obtain ⟨es, c, h1, _⟩ := hD1; exact ⟨es, c, h1⟩
  have hoff : Off (fun k => k = mb) w ((w.alloc (.cells #[.int .i64 a, .int .i64 b] 74)).drew) := Off.of_below hbel
  rcases Nat.eq_zero_or_pos X.length with h0 | h0
  · obtain rfl : X = [] := List.eq_nil_of_length_eq_zero h0
    obtain ⟨w2, hrun, hown2, hturn⟩ := hD1.drop lawP Try.underlying62 (keyP ha hb) 0
    unfold pv at hrun
    have HL : Hid (Lk N w2 lb mb (n + 1) L' ∧ Off (fun k => k = mb) w w2) := ⟨h.stored (ad := none) (X := []) hbel ha hb (FxAt.nil _ _ _) hDX (hown2.mono (Nat.le_succ n)) hturn hmap1 (by
      rw [Maps.atKey_del_same]; rfl) (Maps.has_del_same) (fun kk hk => ⟨Maps.atKey_del_other hk _, Maps.has_del_other hk⟩) hS hO hok hlen, hoff.trans (off_turned hturn) (fun _ _ e => e)⟩
    clear hbel hD1 hmap1 hoff hown2 hturn h hX hS hO hok hlen hD hDX
    go_enter Try.func39, Try.ntmps39
    go_wp2
    go_region
    go_wp2
    exact bodyPost_ret (results_none rfl _ _ _) rfl ⟨rfl, HL⟩
  · obtain ⟨w2, hrun, hown2, hturn⟩ := hD1.store lawP Try.underlying62 (by unfold maxLen; omega) (keyP ha hb) (slR_mk ad X.length X.length)
    unfold pv at hrun
    have HL : Hid (Lk N w2 lb mb (n + 1) L' ∧ Off (fun k => k = mb) w w2) := ⟨h.stored hbel ha hb hX hDX hown2 hturn hmap1 (Maps.atKey_put_same hD1.isMap (kP_key a b) _ _) (by rw [Maps.has_put_same hD1.isMap (kP_key a b)]; simpa using h0) (fun kk hk => ⟨Maps.atKey_put_other hk _ _, Maps.has_put_other hk _⟩) hS hO hok hlen, hoff.trans (off_turned hturn) (fun _ _ e => e)⟩
    obtain ⟨b0, o0, rfl, _, _⟩ := hX.here h0
    clear hbel hD1 hmap1 hoff hown2 hturn h hX hS hO hok hlen hD hDX
    go_enter Try.func39, Try.ntmps39
    go_wp2
    go_region
    go_wp2
    go_end0
    exact ⟨rfl, HL⟩
theorem put_at (w : World) (N : Nat → Prop) (lb mb n : Nat) (L L' : List Fl) (a b : Int) (ad : Option Addr) (X : List FX) (m c : Nat) (hm : X.length = m) (h : Lk N w lb mb n L) (hn : n < 1000000000) (ha : In64 a) (hb : In64 b) (hX : FxAt N w ad X) (hc : m ≤ c) (hcm : c ≤ maxLen)
    (hS : L'.filter (pf a b) = X.map FX.x) (hO : ∀ c d : Int, ¬ (c = a ∧ d = b) → L'.filter (pf c d) = L.filter (pf c d)) (hok : ∀ x ∈ L', OkF x) (hlen : L'.length ≤ 512) :
    Calls Try.prog 39 #[.pointer (some ⟨lb, 0, none⟩), .agg #[.int .i64 a, .int .i64 b], .slice ad m c] w fun e w' => e = .returned (.tuple #[]) ∧ Hid (Lk N w' lb mb (n + 1) L' ∧ Off (fun k => k = mb) w w') := by
  subst hm
  exact put_any w N lb mb n L L' h hn a b ha hb ad X c hX hc hcm hS hO hok hlen
end Go.Proofs.Ytopfpdkknfjgoaa
