/- The walks of link's without, Lose, Double. -/
import Derived.Test.YtopfpdkknfjgoaaLSend
namespace Go.Proofs.Ytopfpdkknfjgoaa
open Go.RowKit
set_option linter.unusedVariables false

theorem pair_at {w : World} {X : Obj} {h : Nat} (e : w.heap.size = h) : (w.alloc X).heap[h]? = some X := by subst e; exact heap_alloc_new _ _
theorem take_src {w : World} {b o : Nat} {X : List FX} (h : ∀ j u, (fcells X)[j]? = some u → w.cell? ⟨b, o + j, none⟩ = some u) (k : Nat) : ∀ j u, (fcells (X.take k))[j]? = some u → w.cell? ((⟨b, o, none⟩ : Addr).add j) = some u := by
  intro j u hu
  rw [fcells_take, List.getElem?_take] at hu
  split at hu
  · rw [Go.WideShapes.add_plain]; exact h j u hu
  · cases hu
theorem drop_src {w : World} {b o : Nat} {X : List FX} (h : ∀ j u, (fcells X)[j]? = some u → w.cell? ⟨b, o + j, none⟩ = some u) (k : Nat) : ∀ j u, (fcells (X.drop k))[j]? = some u → w.cell? ((⟨b, o + k * 4, none⟩ : Addr).add j) = some u := by
  intro j u hu
  rw [fcells_drop, List.getElem?_drop] at hu
  rw [Go.WideShapes.add_plain, Nat.add_assoc]; exact h _ u hu
set_option maxRecDepth 20000 in
set_option maxHeartbeats 4000000 in
theorem without_any (w : World) (N : Nat → Prop) (ad : Option Addr) (X : List FX) (m k : Nat) (hX : FxAt N w ad X) (hm : X.length = m) (hk : k < m) (hz : m ≤ 512) (hN : ∀ k, N k → k < w.heap.size) :
    Calls Try.prog 40 #[.slice ad m m, .int .i64 k] w fun e w' => ∃ a c, e = .returned (.slice a (m - 1) c) ∧ Hid (FxAt N w' a (X.eraseIdx k) ∧ m - 1 ≤ c ∧ c ≤ maxLen ∧ Below w.heap.size w w') := by
  obtain ⟨b, o, rfl, hnb, hc⟩ := hX.here (by omega)
  have HC : Hid (∀ W, Below w.heap.size w W → ∀ j u, (fcells X)[j]? = some u → W.cell? ⟨b, o + j, none⟩ = some u) := fun W hb j u hu => cell_later hb (hc j u hu)
  have HX : Hid (FxAt N w (some ⟨b, o, none⟩) X ∧ (∀ k, N k → k < w.heap.size) ∧ X.length = m) := ⟨hX, hN, hm⟩
  have HL : Hid ((X.take k).length = k ∧ (X.drop (k + 1)).length = m - (k + 1)) := by constructor <;> simp <;> omega
  clear hX hc hN hm
  have j1 : (k : Int) ≤ m := by omega
  have j2 : ((k : Int) + 1) ≤ m := by omega
  have hwk : IntKind.i64.wrap ((k : Int) + 1) = ((k + 1 : Nat) : Int) := by simp [IntKind.wrap, IntKind.signed, IntKind.bits]; omega
  have j3 : (k : Int) ≤ (k : Int) + 1 := by omega
  have j4 : (0 : Int) ≤ (k : Int) + 1 := by omega
  have j5 : ((k + 1 : Nat) : Int) ≤ (m : Int) := by omega
  have hsub : ∀ y ∈ X.take k ++ X.drop (k + 1), y ∈ X := fun y hy => (List.mem_append.1 hy).elim List.mem_of_mem_take List.mem_of_mem_drop
  by_cases hkm : m = k + 1
  · have hd : X.drop (k + 1) = [] := List.drop_eq_nil_of_le (by have := HX.out.2.2; omega)
    subst hkm
    have hbw : Below w.heap.size w ((w.alloc (.cells #[.slice (some ⟨b, o, none⟩) k (k + 1), .slice (some ⟨b, o, none⟩) (0) (0)] 26)).drew) := ((Below.refl _ w).alloc (Nat.le_refl _) _).drew
    have HCC : Hid (Calls Try.prog 49 #[.slice (some ⟨w.heap.size, 0, none⟩) 2 2] ((w.alloc (.cells #[.slice (some ⟨b, o, none⟩) k (k + 1), .slice (some ⟨b, o, none⟩) (0) (0)] 26)).drew) fun e w' => ∃ a c, e = .returned (.slice a ((k + 1 - 1)) c) ∧ Hid (FxAt N w' a (X.eraseIdx k) ∧ (k + 1 - 1) ≤ c ∧ c ≤ maxLen ∧ Below w.heap.size w w')) :=
      (concat_any ⟨b, o, none⟩ ⟨b, o, none⟩ (k + 1) (0) 2 k (0) (X.take k) (X.drop (k + 1)) _ w.heap.size HL.out.1 (by rw [HL.out.2]; omega) (take_src (HC.out _ hbw) k) (by rw [hd]; intro j u hu; simp [fcells] at hu) (heap_alloc_new w _) (by omega)).mono (by
        rintro e w1 ⟨v, rfl, hq⟩
        obtain ⟨a', c', rfl, q1, q2, q3, q4⟩ := fx_own (N := N) hq.out.1 (fun y hy => by obtain ⟨r1, r2⟩ := HX.out.1.rows y (hsub y hy); exact ⟨r1.later (below_of hbw hq.out.2), r2⟩) (fun k hk => Nat.lt_of_lt_of_le (HX.out.2.1 k hk) hbw.size)
        have hl : (X.take k ++ X.drop (k + 1)).length = (k + 1 - 1) := by rw [List.length_append, HL.out.1, HL.out.2]; omega
        exact ⟨a', c', by rw [hl], by rw [List.eraseIdx_eq_take_drop_succ]; exact q4, by rw [← hl]; exact q2, q3, below_of hbw hq.out.2⟩)
    go_enter Try.func40, Try.ntmps40
    go_wp2
    go_region_law (go_simp; go_at_call 49; refine HCC.out.mono ?_; rintro e w1 ⟨a', c', rfl, HF⟩)
    all_goals
      go_wp2
      go_ret
      exact ⟨a', c', rfl, HF⟩
  · have hkm' : ¬ m = k + 1 := hkm
    have hbw : Below w.heap.size w ((w.alloc (.cells #[.slice (some ⟨b, o, none⟩) k m, .slice (some ⟨b, o + (k + 1) * 4, none⟩) (m - (k + 1)) (m - (k + 1))] 26)).drew) := ((Below.refl _ w).alloc (Nat.le_refl _) _).drew
    have HCC : Hid (Calls Try.prog 49 #[.slice (some ⟨w.heap.size, 0, none⟩) 2 2] ((w.alloc (.cells #[.slice (some ⟨b, o, none⟩) k m, .slice (some ⟨b, o + (k + 1) * 4, none⟩) (m - (k + 1)) (m - (k + 1))] 26)).drew) fun e w' => ∃ a c, e = .returned (.slice a (m - 1) c) ∧ Hid (FxAt N w' a (X.eraseIdx k) ∧ m - 1 ≤ c ∧ c ≤ maxLen ∧ Below w.heap.size w w')) :=
      (concat_any ⟨b, o, none⟩ ⟨b, o + (k + 1) * 4, none⟩ m (m - (k + 1)) 2 k (m - (k + 1)) (X.take k) (X.drop (k + 1)) _ w.heap.size HL.out.1 HL.out.2 (take_src (HC.out _ hbw) k) (drop_src (HC.out _ hbw) (k + 1)) (heap_alloc_new w _) (by omega)).mono (by
        rintro e w1 ⟨v, rfl, hq⟩
        obtain ⟨a', c', rfl, q1, q2, q3, q4⟩ := fx_own (N := N) hq.out.1 (fun y hy => by obtain ⟨r1, r2⟩ := HX.out.1.rows y (hsub y hy); exact ⟨r1.later (below_of hbw hq.out.2), r2⟩) (fun k hk => Nat.lt_of_lt_of_le (HX.out.2.1 k hk) hbw.size)
        have hl : (X.take k ++ X.drop (k + 1)).length = m - 1 := by rw [List.length_append, HL.out.1, HL.out.2]; omega
        exact ⟨a', c', by rw [hl], by rw [List.eraseIdx_eq_take_drop_succ]; exact q4, by rw [← hl]; exact q2, q3, below_of hbw hq.out.2⟩)
    go_enter Try.func40, Try.ntmps40
    go_wp2
    go_region_law (go_simp; go_at_call 49; refine HCC.out.mono ?_; rintro e w1 ⟨a', c', rfl, HF⟩)
    all_goals
      go_wp2
      go_ret
      exact ⟨a', c', rfl, HF⟩

theorem map_erase {α β : Type} (f : α → β) : ∀ (X : List α) (k : Nat), (X.eraseIdx k).map f = (X.map f).eraseIdx k
  | [], k => by simp
  | x :: r, 0 => rfl
  | x :: r, k + 1 => by simp [map_erase f r k]
/-- the list without the k-th of those for which p holds. -/
def dropF (p : Fl → Bool) : Nat → List Fl → List Fl
  | _, [] => []
  | k, x :: r => if p x then (match k with | 0 => r | j + 1 => x :: dropF p j r) else x :: dropF p k r
theorem dropF_filter (p : Fl → Bool) : ∀ (k : Nat) (L : List Fl), (dropF p k L).filter p = (L.filter p).eraseIdx k
  | k, [] => by simp [dropF]
  | k, x :: r => by
    unfold dropF
    cases hp : p x
    · simp only [Bool.false_eq_true, if_false]
      rw [List.filter_cons_of_neg (by simp [hp]), List.filter_cons_of_neg (by simp [hp]), dropF_filter p k r]
    · simp only [if_true]
      rw [List.filter_cons_of_pos hp]
      cases k with
      | zero => rfl
      | succ j =>
        show (x :: dropF p j r).filter p = _
        rw [List.filter_cons_of_pos hp, dropF_filter p j r]; rfl
theorem dropF_other (p q : Fl → Bool) (h : ∀ x, p x = true → q x = false) : ∀ (k : Nat) (L : List Fl), (dropF p k L).filter q = L.filter q
  | k, [] => by simp [dropF]
  | k, x :: r => by
    unfold dropF
    cases hp : p x
    · simp only [Bool.false_eq_true, if_false]
      rw [List.filter_cons, List.filter_cons, dropF_other p q h k r]
    · simp only [if_true]
      rw [List.filter_cons_of_neg (a := x) (by simp [h x hp])]
      cases k with
      | zero => rfl
      | succ j =>
        show (x :: dropF p j r).filter q = _
        rw [List.filter_cons_of_neg (by simp [h x hp]), dropF_other p q h j r]
theorem dropF_mem (p : Fl → Bool) : ∀ (k : Nat) (L : List Fl) (x : Fl), x ∈ dropF p k L → x ∈ L
  | k, [], x, h => by simp [dropF] at h
  | k, y :: r, x, h => by
    unfold dropF at h
    cases hp : p y
    · simp only [hp, Bool.false_eq_true, if_false, List.mem_cons] at h
      rcases h with h | h
      · simp [h]
      · exact List.mem_cons_of_mem _ (dropF_mem p k r x h)
    · simp only [hp, if_true] at h
      cases k with
      | zero => exact List.mem_cons_of_mem _ h
      | succ j =>
        rcases List.mem_cons.1 h with h | h
        · simp [h]
        · exact List.mem_cons_of_mem _ (dropF_mem p j r x h)
theorem dropF_len (p : Fl → Bool) : ∀ (k : Nat) (L : List Fl), (dropF p k L).length ≤ L.length
  | k, [] => by simp [dropF]
  | k, y :: r => by
    unfold dropF
    cases hp : p y
    · simpa using dropF_len p k r
    · cases k with
      | zero => simp
      | succ j => simpa using dropF_len p j r
theorem pf_apart {a b c d : Int} (h : ¬ (c = a ∧ d = b)) (x : Fl) (hx : pf a b x = true) : pf c d x = false := by
  unfold pf at hx ⊢
  simp only [Bool.and_eq_true, beq_iff_eq] at hx
  obtain ⟨rfl, rfl⟩ := hx
  rw [Bool.and_eq_false_iff]
  by_cases h1 : x.frm = c
  · exact .inr (by simpa using fun e => h ⟨h1.symm, e.symm⟩)
  · exact .inl (by simpa using h1)
/-- has the pair a flight of the number k? What is answered. -/
def hasE (L : List Fl) (a b k : Int) : Int := if 0 ≤ k ∧ k < ((L.filter (pf a b)).length : Int) then 0 else 4
def loseL (L : List Fl) (a b k : Int) : List Fl := if hasE L a b k = 0 then dropF (pf a b) k.toNat L else L

theorem having_yes (w : World) (N : Nat → Prop) (lb mb n : Nat) (L : List Fl) (h : Lk N w lb mb n L) (a b : Int) (k : Nat) (ha : In64 a) (hb : In64 b) (hk : k < (L.filter (pf a b)).length) :
    Calls Try.prog 38 #[.pointer (some ⟨lb, 0, none⟩), .agg #[.int .i64 a, .int .i64 b], .int .i64 k] w fun e w' => ∃ ad X m, e = .returned (.tuple #[.slice ad m m, .int .i64 0]) ∧ Hid (FxAt N w' ad X ∧ X.map FX.x = L.filter (pf a b) ∧ Below w.heap.size w w' ∧ X.length = m) ∧ k < m ∧ m ≤ 512 :=
  (having_any w N lb mb n L h a b k ha hb).mono (by
    rintro e w' ⟨hb', ⟨hn, _⟩ | ⟨ad, X, HX, hk', rfl⟩⟩
    · exact absurd ⟨Int.natCast_nonneg k, by omega⟩ hn
    · exact ⟨ad, X, X.length, rfl, ⟨HX.out.1, HX.out.2, hb'.out, rfl⟩, by omega, by rw [← List.length_map (f := FX.x), HX.out.2]; exact Nat.le_trans (List.length_filter_le _ _) h.len⟩)
theorem having_no (w : World) (N : Nat → Prop) (lb mb n : Nat) (L : List Fl) (h : Lk N w lb mb n L) (a b : Int) (k : Int) (ha : In64 a) (hb : In64 b) (hk : ¬ (0 ≤ k ∧ k < ((L.filter (pf a b)).length : Int))) :
    Calls Try.prog 38 #[.pointer (some ⟨lb, 0, none⟩), .agg #[.int .i64 a, .int .i64 b], .int .i64 k] w fun e w' => e = .returned (.tuple #[.slice none 0 0, .int .i64 4]) ∧ Hid (Below w.heap.size w w') :=
  (having_any w N lb mb n L h a b k ha hb).mono (by
    rintro e w' ⟨hb', ⟨_, rfl⟩ | ⟨ad, X, HX, hk', rfl⟩⟩
    · exact ⟨rfl, hb'⟩
    · exact absurd (by have := congrArg List.length HX.out.2; rw [List.length_map] at this; omega) hk)

set_option maxRecDepth 20000 in
set_option maxHeartbeats 4000000 in
theorem lose_any (w : World) (N : Nat → Prop) (lb mb n : Nat) (L : List Fl) (h : Lk N w lb mb n L) (hn : n < 1000000000) (hN : ∀ k, N k → k < w.heap.size) (a b k : Int) (ha : In64 a) (hb : In64 b) :
    Calls Try.prog 19 #[.pointer (some ⟨lb, 0, none⟩), .int .i64 a, .int .i64 b, .int .i64 k] w fun e w' => e = .returned (.int .i64 (hasE L a b k)) ∧ Hid (Lk N w' lb mb (n + 1) (loseL L a b k) ∧ Off (fun k => k = mb) w w') := by
  by_cases hk : 0 ≤ k ∧ k < ((L.filter (pf a b)).length : Int)
  · obtain ⟨q, rfl⟩ := Int.eq_ofNat_of_zero_le hk.1
    have he : hasE L a b (q : Int) = 0 := by unfold hasE; rw [if_pos hk]
    have hl : loseL L a b (q : Int) = dropF (pf a b) q L := by unfold loseL; rw [if_pos he]; rfl
    rw [he, hl]
    have HH : Hid (Lk N w lb mb n L ∧ In64 a ∧ In64 b ∧ q < (L.filter (pf a b)).length ∧ ∀ k, N k → k < w.heap.size) := ⟨h, ha, hb, by omega, hN⟩
    clear h ha hb hk hN he hl
    go_enter Try.func19, Try.ntmps19
    go_wp2_with (first
      | (go_at_call 38; refine (having_yes _ N lb mb n L HH.out.1 _ _ _ HH.out.2.1 HH.out.2.2.1 HH.out.2.2.2.1).mono ?_; rintro e w1 ⟨ad, X, m, rfl, HX, hqm, hm5⟩)
      | (go_at_call 40; refine (without_any _ N _ X m q HX.out.1 HX.out.2.2.2 hqm hm5 (fun k hk => Nat.lt_of_lt_of_le (HH.out.2.2.2.2 k hk) HX.out.2.2.1.size)).mono ?_; rintro e w2 ⟨a2, c2, rfl, HF⟩)
      | (go_at_call 39; refine (put_at _ N lb mb n L (dropF (pf a b) q L) _ _ _ (X.eraseIdx q) _ _ (by rw [List.length_eraseIdx, if_pos (by rw [HX.out.2.2.2]; exact hqm), HX.out.2.2.2]) (HH.out.1.later (below_of HX.out.2.2.1 HF.out.2.2.2)) hn HH.out.2.1 HH.out.2.2.1 HF.out.1 HF.out.2.1 HF.out.2.2.1 (by rw [dropF_filter, ← HX.out.2.1, map_erase]) (fun c d hcd => dropF_other _ _ (pf_apart hcd) _ _) (fun z hz => HH.out.1.ok z (dropF_mem _ _ _ z hz)) (Nat.le_trans (dropF_len _ _ _) HH.out.1.len)).mono ?_; rintro e w3 ⟨rfl, HL⟩))
    go_ret
    exact ⟨rfl, HL.out.1, (Off.of_below (S := fun k => k = mb) (below_of HX.out.2.2.1 HF.out.2.2.2)).trans HL.out.2 (fun _ _ e => e)⟩
  · have he : hasE L a b k = 4 := by unfold hasE; rw [if_neg hk]
    have hl : loseL L a b k = L := by unfold loseL; rw [he]; rfl
    rw [he, hl]
    have HH : Hid (Calls Try.prog 38 #[.pointer (some ⟨lb, 0, none⟩), .agg #[.int .i64 a, .int .i64 b], .int .i64 k] w fun e w' => e = .returned (.tuple #[.slice none 0 0, .int .i64 4]) ∧ Hid (Below w.heap.size w w')) := having_no w N lb mb n L h a b k ha hb hk
    have HK : Hid (Lk N w lb mb n L) := h
    clear h ha hb hk hN he hl
    go_enter Try.func19, Try.ntmps19
    go_wp2_with (go_at_call 38; refine HH.out.mono ?_; rintro e w1 ⟨rfl, hq⟩)
    go_ret
    exact ⟨rfl, (HK.out.later hq.out).mono (Nat.le_succ n), Off.of_below hq.out⟩

/-- what Double answers, and the flights then. -/
def doubE (L : List Fl) (a b k : Int) : Int := if hasE L a b k = 0 then (if L.length < 512 then 0 else 6) else 4
def doubL (L : List Fl) (a b k : Int) : List Fl := if doubE L a b k = 0 then L ++ ((L.filter (pf a b))[k.toNat]?).toList else L
theorem filter_get {L : List Fl} {a b : Int} {X : List FX} (hX : X.map FX.x = L.filter (pf a b)) (hok : ∀ x ∈ L, OkF x) (k : Nat) (hk : k < X.length) : (L.filter (pf a b))[k]? = some X[k].x ∧ X[k].x.frm = a ∧ X[k].x.to = b ∧ OkF X[k].x := by
  have h1 : (L.filter (pf a b))[k]? = some X[k].x := by rw [← hX, List.getElem?_map, List.getElem?_eq_getElem hk]; rfl
  have h2 := List.mem_filter.1 (List.mem_of_getElem? h1)
  have h3 := h2.2
  unfold pf at h3
  simp only [Bool.and_eq_true, beq_iff_eq] at h3
  exact ⟨h1, h3.1, h3.2, hok _ h2.1⟩

set_option maxRecDepth 20000 in
set_option maxHeartbeats 4000000 in
theorem double_any (w : World) (N : Nat → Prop) (lb mb n : Nat) (L : List Fl) (h : Lk N w lb mb n L) (hn : n < 1000000000) (hN : ∀ k, N k → k < w.heap.size) (a b k : Int) (ha : In64 a) (hb : In64 b) :
    Calls Try.prog 17 #[.pointer (some ⟨lb, 0, none⟩), .int .i64 a, .int .i64 b, .int .i64 k] w fun e w' => e = .returned (.int .i64 (doubE L a b k)) ∧ Hid (Lk N w' lb mb (n + 1) (doubL L a b k) ∧ Off (fun k => k = mb) w w') := by
  by_cases hk : 0 ≤ k ∧ k < ((L.filter (pf a b)).length : Int)
  · obtain ⟨q, rfl⟩ := Int.eq_ofNat_of_zero_le hk.1
    have he0 : hasE L a b (q : Int) = 0 := by unfold hasE; rw [if_pos hk]
    have he : doubE L a b (q : Int) = if L.length < 512 then 0 else 6 := by unfold doubE; rw [if_pos he0]
    have HH : Hid (Lk N w lb mb n L ∧ In64 a ∧ In64 b ∧ q < (L.filter (pf a b)).length ∧ ∀ k, N k → k < w.heap.size) := ⟨h, ha, hb, by omega, hN⟩
    by_cases h5 : L.length < 512
    · have HL0 : Hid (doubL L a b (q : Int) = L ++ ((L.filter (pf a b))[q]?).toList) := by show _ = _; unfold doubL; rw [he, if_pos h5]; rfl
      rw [he, if_pos h5]
      clear h ha hb hk hN he he0
      go_enter Try.func17, Try.ntmps17
      go_wp2_with (first
        | (go_at_call 38; refine (having_yes _ N lb mb n L HH.out.1 _ _ _ HH.out.2.1 HH.out.2.2.1 HH.out.2.2.2.1).mono ?_; rintro e w1 ⟨ad, X, m, rfl, HX, hqm, hm5⟩; obtain ⟨b0, o0, rfl, y0, y1, y2, y3⟩ := HX.out.1.cells4 q (by rw [HX.out.2.2.2]; exact hqm); obtain ⟨y, hy⟩ : ∃ y, y = X[q]'(by rw [HX.out.2.2.2]; exact hqm) := ⟨_, rfl⟩; have HY : Hid (y = X[q]'(by rw [HX.out.2.2.2]; exact hqm)) := hy; rw [← hy] at y0 y1 y2 y3; clear hy)
        | (go_at_call 37; refine (add_some _ N lb mb n L (HH.out.1.later HX.out.2.2.1) hn (fun k hk => Nat.lt_of_lt_of_le (HH.out.2.2.2.2 k hk) HX.out.2.2.1.size) y (by rw [HY.out]; exact (filter_get HX.out.2.1 HH.out.1.ok q _).2.2.2) (by rw [HY.out]; exact (HX.out.1.rows _ (List.getElem_mem _)).1) (by rw [HY.out]; exact (HX.out.1.rows _ (List.getElem_mem _)).2) h5).mono ?_; rintro e w4 ⟨rfl, hq4⟩))
      go_ret
      exact ⟨rfl, by rw [HL0.out, (filter_get HX.out.2.1 HH.out.1.ok q (by rw [HX.out.2.2.2]; exact hqm)).1, ← HY.out]; exact hq4.out.1, (Off.of_below (S := fun k => k = mb) HX.out.2.2.1).trans hq4.out.2 (fun _ _ e => e)⟩
    · have h6 : L.length = 512 := by have := h.len; omega
      have HL0 : Hid (doubL L a b (q : Int) = L) := by show _ = _; unfold doubL; rw [he, if_neg h5]; rfl
      rw [he, if_neg h5]
      clear h ha hb hk hN he he0
      go_enter Try.func17, Try.ntmps17
      go_wp2_with (first
        | (go_at_call 38; refine (having_yes _ N lb mb n L HH.out.1 _ _ _ HH.out.2.1 HH.out.2.2.1 HH.out.2.2.2.1).mono ?_; rintro e w1 ⟨ad, X, m, rfl, HX, hqm, hm5⟩; obtain ⟨b0, o0, rfl, y0, y1, y2, y3⟩ := HX.out.1.cells4 q (by rw [HX.out.2.2.2]; exact hqm); obtain ⟨y, hy⟩ : ∃ y, y = X[q]'(by rw [HX.out.2.2.2]; exact hqm) := ⟨_, rfl⟩; rw [← hy] at y0 y1 y2 y3; clear hy)
        | (go_at_call 37; refine (add_full _ N lb mb n L (HH.out.1.later HX.out.2.2.1) y h6).mono ?_; rintro e w4 ⟨rfl, hq4⟩))
      go_ret
      exact ⟨rfl, by rw [HL0.out]; exact (HH.out.1.later (below_of HX.out.2.2.1 hq4.out)).mono (Nat.le_succ n), Off.of_below (below_of HX.out.2.2.1 hq4.out)⟩
  · have he0 : hasE L a b k = 4 := by unfold hasE; rw [if_neg hk]
    have he : doubE L a b k = 4 := by unfold doubE; rw [he0]; rfl
    have hl : doubL L a b k = L := by unfold doubL; rw [he]; rfl
    rw [he, hl]
    have HH : Hid (Calls Try.prog 38 #[.pointer (some ⟨lb, 0, none⟩), .agg #[.int .i64 a, .int .i64 b], .int .i64 k] w fun e w' => e = .returned (.tuple #[.slice none 0 0, .int .i64 4]) ∧ Hid (Below w.heap.size w w')) := having_no w N lb mb n L h a b k ha hb hk
    have HK : Hid (Lk N w lb mb n L) := h
    clear h ha hb hk hN he hl he0
    go_enter Try.func17, Try.ntmps17
    go_wp2_with (go_at_call 38; refine HH.out.mono ?_; rintro e w1 ⟨rfl, hq⟩)
    go_ret
    exact ⟨rfl, (HK.out.later hq.out).mono (Nat.le_succ n), Off.of_below hq.out⟩
end Go.Proofs.Ytopfpdkknfjgoaa
