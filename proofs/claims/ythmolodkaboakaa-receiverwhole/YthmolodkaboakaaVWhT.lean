/- The law's pieces. -/
import Derived.Test.YthmolodkaboakaaVWhS
namespace Go.Proofs.Ythmolodkaboakaa
open Go.RowKit
set_option linter.unusedVariables false
/-- cuts that came in. -/
structure CutX where
  at_ : Int
  n : Int
  chk : Bool
def RowT (w : World) (a : Option Addr) (l : List CutX) : Prop := 0 < l.length → ∃ b o, a = some ⟨b, o, none⟩ ∧ ∀ i (h : i < l.length), w.cell? ⟨b, o + i * 3, none⟩ = some (.int .i64 (l[i]).at_) ∧ w.cell? ⟨b, o + i * 3 + 1, none⟩ = some (.int .i64 (l[i]).n) ∧ w.cell? ⟨b, o + i * 3 + 2, none⟩ = some (.bool (l[i]).chk)
theorem RowT.later {w w' : World} {a : Option Addr} {l : List CutX} (h : RowT w a l) (hb : Below w.heap.size w w') : RowT w' a l := by
  intro h0
  obtain ⟨b, o, e, hc⟩ := h h0
  refine ⟨b, o, e, fun i hi => ?_⟩
  obtain ⟨c1, c2, c3⟩ := hc i hi
  exact ⟨cell_later hb c1, cell_later hb c2, cell_later hb c3⟩
/-- pieces that may be. -/
def PcA (N : Nat) (P : List PT) : Prop := ∀ p ∈ P, 1 ≤ p.2.1 ∧ p.2.1 ≤ 100 ∧ p.1 + p.2.1 ≤ N ∧ p.2.2 ≤ 1000
/-- what pieces answers. -/
structure PcO (n0 : Nat) (w : World) (v : Value) (N bb bo c : Nat) (P : List PT) : Prop where
  own : w.ownsRow n0 28 13 v P.length (pcells N bb bo c P)
  all : PcA N P
  len : P.length ≤ 60
  cov : ∀ i, i < N → ∃ p ∈ P, p.1 ≤ i ∧ i < p.1 + p.2.1
  pos : 0 < P.length
/-- where the loops stand. -/
structure PsI (w wr : World) (N bb bo c : Nat) (v : Value) (P : List PT) : Prop where
  bel : Below w.heap.size w wr
  kbx : wr.heap[w.heap.size]? = some (.cells #[.slice (some ⟨bb, bo, none⟩) N c] 23 (0, 0))
  gs : Gs wr (w.heap.size + 1) (w.heap.size + 2) N bb bo c v P
  all : PcA N P
  sz : w.heap.size + 2 ≤ wr.heap.size
theorem PsI.later {w wr wx : World} {N bb bo c : Nat} {v : Value} {P : List PT} (h : PsI w wr N bb bo c v P) (hb : Below wr.heap.size wr wx) : PsI w wx N bb bo c v P :=
  ⟨below_of h.bel hb, old_block hb h.kbx, ⟨old_block hb h.gs.1, (Off.of_below (S := fun _ => False) hb).owns h.gs.2 (fun _ _ t => t)⟩, h.all, Nat.le_trans h.sz hb.size⟩
/-- behind a put. -/
theorem PsI.put {w wr wx : World} {N bb bo c : Nat} {v v' : Value} {P : List PT} {p : PT} (h : PsI w wr N bb bo c v P) (hg : Gs wx (w.heap.size + 1) (w.heap.size + 2) N bb bo c v' (P ++ [p])) (ho : Off (fun i => i = w.heap.size + 1 ∨ v.ownBlock = some i) wr wx) (hp : 1 ≤ p.2.1 ∧ p.2.1 ≤ 100 ∧ p.1 + p.2.1 ≤ N ∧ p.2.2 ≤ 1000) : PsI w wx N bb bo c v' (P ++ [p]) := by
  have hv : ∀ k, v.ownBlock = some k → w.heap.size + 2 ≤ k := own_ge h.gs.2
  refine ⟨h.bel.trans (ho.below h.bel.size (fun i e => ?_)), ho.at h.kbx (fun e => ?_), hg, ?_, Nat.le_trans h.sz ho.size⟩
  · rcases e with e | e
    · omega
    · have := hv i e; omega
  · rcases e with e | e
    · omega
    · have := hv _ e; omega
  · intro q hq
    rcases List.mem_append.1 hq with hq | hq
    · exact h.all q hq
    · rw [List.mem_singleton] at hq; subst hq; exact hp
theorem PsI.start (w : World) (N bb bo c : Nat) : PsI w ((w.alloc (.cells #[.slice (some ⟨bb, bo, none⟩) N c] 23)).alloc (.cells #[.slice none 0 0] 31)) N bb bo c (.slice none 0 0) [] := by
  have hb : Below (w.alloc (.cells #[.slice (some ⟨bb, bo, none⟩) N c] 23)).heap.size (w.alloc (.cells #[.slice (some ⟨bb, bo, none⟩) N c] 23)) ((w.alloc (.cells #[.slice (some ⟨bb, bo, none⟩) N c] 23)).alloc (.cells #[.slice none 0 0] 31)) := (Below.refl _ _).alloc (Nat.le_refl _) _
  exact ⟨below_of ((Below.refl _ w).alloc (Nat.le_refl _) _) hb, old_block hb (heap_alloc_new w _), ⟨second_new w _ _, rfl, .inl ⟨rfl, rfl⟩⟩, fun p hp => absurd hp (by simp), by simp⟩
/-- one more piece, whatever it is. -/
theorem putI_any (N bb bo c : Nat) (w : World) (h2 : N ≤ 512) (hc : N ≤ c) (hcm : c ≤ maxLen) (oo nn : Nat) (K : Bool) (W : World) (v : Value) (P : List PT) (h : PsI w W N bb bo c v P) (hn1 : 1 ≤ nn) (hn2 : nn ≤ 100) (hf : oo + nn ≤ N) (hP : P.length ≤ 100) :
    Calls Try.prog 48 #[.int .i64 (oo : Int), .int .i64 (nn : Int), .bool K, .pointer (some ⟨w.heap.size, 0, none⟩), .pointer (some ⟨w.heap.size + 1, 0, none⟩)] W fun e w' => e = .returned (.tuple #[]) ∧ Hid (∃ v' ser, PsI w w' N bb bo c v' (P ++ [(oo, nn, ser)]) ∧ Off (fun i => i = w.heap.size + 1 ∨ v.ownBlock = some i) W w') := by
  cases K with
  | false =>
    refine (put_0 N bb bo c oo nn (w.heap.size + 1) (w.heap.size + 2) w.heap.size v P W h.kbx h.gs (by omega) h.sz h2 hc hcm hn1 hf (by omega)).mono ?_
    rintro e w' ⟨rfl, hq⟩
    obtain ⟨v', g1, g2⟩ := hq.out
    exact ⟨rfl, v', 0, h.put g1 g2 ⟨hn1, hn2, hf, by show 0 ≤ 1000; omega⟩, g2⟩
  | true =>
    refine (put_1 N bb bo c oo nn (w.heap.size + 1) (w.heap.size + 2) w.heap.size v P W h.kbx h.gs (by omega) h.sz h2 hc hcm hn1 hf (by omega)).mono ?_
    rintro e w' ⟨rfl, hq⟩
    obtain ⟨v', g1, g2⟩ := hq.out
    exact ⟨rfl, v', P.length + 1, h.put g1 g2 ⟨hn1, hn2, hf, by show P.length + 1 ≤ 1000; omega⟩, g2⟩
theorem own_blk {w : World} {base n z : Nat} {e : TypeId} {v : Value} {xs : List Value} (h : w.ownsRow base e z v n xs) : ∀ k, v.ownBlock = some k → k < w.heap.size := by
  intro k hk
  rcases h.2 with ⟨rfl, _⟩ | ⟨g, cap, cur, rfl, _, hc, _⟩
  · cases hk
  · cases hk
    exact (Array.getElem?_eq_some_iff.1 hc).1
theorem cut_kept {w wr W w9 : World} {N bb bo c : Nat} {v v' : Value} {P Q : List PT} {A M : Int} {K : Bool} (h : PsI w wr N bb bo c v P) (hW : W = (wr.alloc (.cells #[.int .i64 A, .int .i64 M, .bool K] 79)).drew) (h9 : PsI w w9 N bb bo c v' Q) (ho : Off (fun i => i = w.heap.size + 1 ∨ v.ownBlock = some i) W w9) :
    w9.cell? ⟨wr.heap.size, 0, none⟩ = some (.int .i64 A) ∧ w9.cell? ⟨wr.heap.size, 1, none⟩ = some (.int .i64 M) ∧ w9.cell? ⟨wr.heap.size, 2, none⟩ = some (.bool K) ∧ w9.cell? ⟨w.heap.size, 0, none⟩ = some (.slice (some ⟨bb, bo, none⟩) N c) := by
  subst hW
  have hb := ho.at (k := wr.heap.size) (old_block (Below.refl _ _).drew (heap_alloc_new wr (.cells #[.int .i64 A, .int .i64 M, .bool K] 79))) (fun e => by
    have hz := h.sz
    rcases e with e | e
    · omega
    · have := own_blk h.gs.2 _ e; omega)
  refine ⟨?_, ?_, ?_, ?_⟩
  · rw [cell_of hb]; rfl
  · rw [cell_of hb]; rfl
  · rw [cell_of hb]; rfl
  · rw [cell_of h9.kbx]; rfl
/-- where the second loop stands. -/
def Ps2 (w wr : World) (N bb bo c m : Nat) : Prop := ∃ v P, PsI w wr N bb bo c v P ∧ P.length * 100 ≤ 4000 + m ∧ (∀ t, t < m → t < N → ∃ p ∈ P, p.1 ≤ t ∧ t < p.1 + p.2.1) ∧ (0 < m → 0 < P.length)
theorem ps2_put {w wr wx : World} {N bb bo c m n ser : Nat} {v v' : Value} {P : List PT} (hx : PsI w wx N bb bo c v' (P ++ [(m, n, ser)])) (hl : P.length * 100 ≤ 4000 + m) (hc : ∀ t, t < m → t < N → ∃ p ∈ P, p.1 ≤ t ∧ t < p.1 + p.2.1) (hn : n = 100 ∨ m + n = N) : Ps2 w wx N bb bo c (m + 100) := by
  refine ⟨v', _, hx, by rw [List.length_append]; simp; omega, fun t h1 h2 => ?_, fun _ => by simp⟩
  by_cases ht : t < m
  · obtain ⟨p, hp, h3⟩ := hc t ht h2
    exact ⟨p, List.mem_append_left _ hp, h3⟩
  · exact ⟨(m, n, ser), by simp, by show m ≤ t; omega, by show t < m + n; omega⟩
theorem ps2_end {w wr : World} {N bb bo c m : Nat} (h : Ps2 w wr N bb bo c m) (hm : N ≤ m) (h1 : 1 ≤ N) (hm2 : m ≤ 700) : ∃ v P, wr.cell? ⟨w.heap.size + 1, 0, none⟩ = some v ∧ Hid (Below w.heap.size w wr ∧ PcO w.heap.size wr v N bb bo c P) := by
  obtain ⟨v, P, hp, hl, hc, h0⟩ := h
  refine ⟨v, P, by rw [cell_of hp.gs.1]; rfl, hp.bel, own_base hp.gs.2 (by omega), hp.all, by omega, fun i hi => hc i (by omega) hi, h0 (by omega)⟩
set_option maxRecDepth 20000 in
set_option maxHeartbeats 4000000 in
theorem pieces_any (N bb bo c : Nat) (la : Option Addr) (lc : Nat) (l : List CutX) (w : World) (h1 : 1 ≤ N) (h2 : N ≤ 512) (hc : N ≤ c) (hcm : c ≤ maxLen) (hl : RowT w la l) (hlz : l.length ≤ 140737488351232) (hin : ∀ x ∈ l, in64 x.at_ ∧ in64 x.n) :
    Calls Try.prog 28 #[.slice (some ⟨bb, bo, none⟩) N c, .slice la l.length lc] w fun e w' => ∃ v P, e = .returned v ∧ Hid (Below w.heap.size w w' ∧ PcO w.heap.size w' v N bb bo c P) := by
  have HI0 : Hid (PsI w ((w.alloc (.cells #[.slice (some ⟨bb, bo, none⟩) N c] 23)).alloc (.cells #[.slice none 0 0] 31)) N bb bo c (.slice none 0 0) []) := PsI.start w N bb bo c
  have HL : Hid (RowT w la l) := hl
  have HIN : Hid (∀ x ∈ l, in64 x.at_ ∧ in64 x.n) := hin
  clear hl hin
  go_enter Try.func28, Try.ntmps28
  go_wp2_with fail
  go_loopw [15] (fun i wr => ∃ k : Nat, k ≤ l.length ∧ (k : Int) ≤ 40 ∧ i = .int .i64 k ∧ Hid (∃ v P, PsI w wr N bb bo c v P ∧ P.length = k)) (fun i _ => l.length - (intOf i).toNat)
  case atStart => exact ⟨0, by omega, by omega, rfl, ⟨_, _, HI0.out, rfl⟩⟩
  case round =>
    obtain ⟨k, hk, hk40, rfl, HQ0⟩ := hrel
    obtain ⟨v, P, hv, hPk⟩ := HQ0.out
    have HQ : Hid (PsI w wr N bb bo c v P) := hv
    have HPK : Hid (P.length = k) := hPk
    clear hv hPk HQ0
    by_cases hlt : k < l.length
    · obtain ⟨b, o, hab, hcell⟩ := (HL.out.later HQ.out.bel) (by omega)
      subst hab
      obtain ⟨c1, c2, c3⟩ := hcell k hlt
      obtain ⟨i1, i2⟩ := HIN.out l[k] (List.getElem_mem hlt)
      obtain ⟨A, hA⟩ : ∃ A, (l[k]).at_ = A := ⟨_, rfl⟩
      obtain ⟨M, hM⟩ : ∃ M, (l[k]).n = M := ⟨_, rfl⟩
      obtain ⟨K, hK⟩ : ∃ K, (l[k]).chk = K := ⟨_, rfl⟩
      rw [hA] at c1 i1
      rw [hM] at c2 i2
      rw [hK] at c3
      clear hA hM hK hcell
      obtain ⟨i3, i4⟩ := i1
      obtain ⟨i5, i6⟩ := i2
      have hki : (k : Int) < (l.length : Int) := by omega
      by_cases h40 : k = 40
      · have e40 : ((k : Int) == 40) = true := by simp; omega
        clear h40
        have HV0 : Hid (∀ X, Ps2 w (wr.alloc X) N bb bo c 0) := fun X => ⟨v, P, HQ.out.later ((Below.refl _ _).alloc (Nat.le_refl _) X), by have := HPK.out; omega, fun t h => absurd h (by omega), fun h => absurd h (by omega)⟩
        clear HQ HPK
        go_wp2_with fail
        go_loopw [10] (fun i ws => ∃ m : Nat, m < N + 100 ∧ m ≤ 700 ∧ i = .int .i64 m ∧ Hid (Ps2 w ws N bb bo c m)) (fun i _ => (N + 100 - (intOf i).toNat))
        case atStart => exact ⟨0, by omega, by omega, rfl, HV0.out _⟩
        case round =>
          rename World => ws
          obtain ⟨m, hm1, hm2, rfl, HR⟩ := hrel
          obtain ⟨v2, P2, hp2⟩ := HR.out
          have HP2 : Hid _ := hp2
          clear hp2
          have r0 : ws.cell? ⟨w.heap.size, 0, none⟩ = some (.slice (some ⟨bb, bo, none⟩) N c) := by rw [cell_of HP2.out.1.kbx]; rfl
          by_cases hmN : (m : Int) < (N : Int)
          · obtain ⟨E, hE⟩ : ∃ E : Nat, N - m = E := ⟨_, rfl⟩
            have hsub : IntKind.i64.wrap ((N : Int) - (m : Int)) = (E : Int) := by rw [IntKind.wrap_i64]; omega
            have hwE : IntKind.i64.wrap (E : Int) = (E : Int) := by rw [IntKind.wrap_i64]; omega
            have hE1 : 1 ≤ E ∧ m + E = N := by omega
            clear hE
            by_cases hq : (100 : Int) ≤ (E : Int)
            · have hq2 : ¬ (E : Int) < 100 := by omega
              have HPT : Hid (∀ K, Calls Try.prog 48 #[.int .i64 (m : Int), .int .i64 100, .bool K, .pointer (some ⟨w.heap.size, 0, none⟩), .pointer (some ⟨w.heap.size + 1, 0, none⟩)] ws fun e w' => e = .returned (.tuple #[]) ∧ Hid (∃ v' ser, PsI w w' N bb bo c v' (P2 ++ [(m, 100, ser)]) ∧ Off (fun i => i = w.heap.size + 1 ∨ v2.ownBlock = some i) ws w')) := fun K => putI_any N bb bo c w h2 hc hcm m 100 K ws v2 P2 HP2.out.1 (by omega) (by omega) (by omega) (by have := HP2.out.2.1; omega)
              go_wp2_with (go_at_call 48; refine (HPT.out _).mono ?_; rintro e w9 ⟨rfl, hq9⟩; have HR9 : Hid (Ps2 w w9 N bb bo c (m + 100)) := (by obtain ⟨v9, ser, hp9, _⟩ := hq9.out; exact ps2_put (wr := ws) (v := v2) hp9 HP2.out.2.1 HP2.out.2.2.1 (.inl rfl)); have u0 : w9.cell? ⟨w.heap.size, 0, none⟩ = some (.slice (some ⟨bb, bo, none⟩) N c) := (by obtain ⟨v9, ser, hp9, _⟩ := hq9.out; rw [cell_of hp9.kbx]; rfl))
              all_goals
                go_roundw
                case rel => repeat (first | exact ⟨m + 100, by omega, by omega, by go_num, HR9.out⟩ | refine ⟨_, ?_⟩)
                case measure => simp [intOf]; omega
            · have hq2 : (E : Int) < 100 := by omega
              have HPT : Hid (∀ K, Calls Try.prog 48 #[.int .i64 (m : Int), .int .i64 (E : Int), .bool K, .pointer (some ⟨w.heap.size, 0, none⟩), .pointer (some ⟨w.heap.size + 1, 0, none⟩)] ws fun e w' => e = .returned (.tuple #[]) ∧ Hid (∃ v' ser, PsI w w' N bb bo c v' (P2 ++ [(m, E, ser)]) ∧ Off (fun i => i = w.heap.size + 1 ∨ v2.ownBlock = some i) ws w')) := fun K => putI_any N bb bo c w h2 hc hcm m E K ws v2 P2 HP2.out.1 (by omega) (by omega) (by omega) (by have := HP2.out.2.1; omega)
              go_wp2_with (go_at_call 48; refine (HPT.out _).mono ?_; rintro e w9 ⟨rfl, hq9⟩; have HR9 : Hid (Ps2 w w9 N bb bo c (m + 100)) := (by obtain ⟨v9, ser, hp9, _⟩ := hq9.out; exact ps2_put (wr := ws) (v := v2) hp9 HP2.out.2.1 HP2.out.2.2.1 (.inr hE1.2)); have u0 : w9.cell? ⟨w.heap.size, 0, none⟩ = some (.slice (some ⟨bb, bo, none⟩) N c) := (by obtain ⟨v9, ser, hp9, _⟩ := hq9.out; rw [cell_of hp9.kbx]; rfl))
              all_goals
                go_roundw
                case rel => repeat (first | exact ⟨m + 100, by omega, by omega, by go_num, HR9.out⟩ | refine ⟨_, ?_⟩)
                case measure => simp [intOf]; omega
          · obtain ⟨v7, P7, hc7, HO7⟩ := ps2_end HR.out (by omega) h1 hm2
            go_wp2
            go_ret
            first | exact ⟨v7, rfl, P7, HO7⟩ | exact ⟨v7, P7, rfl, HO7⟩
      · have e40 : ((k : Int) == 40) = false := by simp; omega
        have HK39 : Hid ((k : Int) + 1 ≤ 40) := by (show _ ≤ _; omega)
        clear h40
        have q0 : ∀ X, (wr.alloc X).cell? ⟨w.heap.size, 0, none⟩ = some (.slice (some ⟨bb, bo, none⟩) N c) := fun X => by rw [cell_of (old_block ((Below.refl _ _).alloc (Nat.le_refl _) X) HQ.out.kbx)]; rfl
        have HQX : Hid (∀ X, PsI w (wr.alloc X) N bb bo c v P) := fun X => HQ.out.later ((Below.refl _ _).alloc (Nat.le_refl _) X)
        obtain ⟨oo, hoo⟩ : ∃ oo : Nat, (max A 0) % (N : Int) = (oo : Int) ∧ oo < N := ⟨((max A 0) % (N : Int)).toNat, by have := Int.emod_nonneg (max A 0) (show (N : Int) ≠ 0 by omega); omega, by have := Int.emod_lt_of_pos (max A 0) (show (0 : Int) < (N : Int) by omega); omega⟩
        obtain ⟨ho1, ho2⟩ := hoo
        by_cases hA0 : 0 ≤ A
        · have e1 : A % (N : Int) = (oo : Int) := by rw [← ho1, Int.max_eq_left hA0]
          clear ho1
          go_wp2_with fail
          rw [e1]
          clear e1
          obtain ⟨E, hE⟩ : ∃ E : Nat, N - oo = E := ⟨_, rfl⟩
          have hsub : IntKind.i64.wrap ((N : Int) - (oo : Int)) = (E : Int) := by rw [IntKind.wrap_i64]; omega
          have hwE : IntKind.i64.wrap (E : Int) = (E : Int) := by rw [IntKind.wrap_i64]; omega
          have hE1 : 1 ≤ E ∧ oo + E = N := by omega
          by_cases hM0 : 0 ≤ M
          · by_cases hq : (100 : Int) ≤ (E : Int)
            · skip
              obtain ⟨nn, hnn, hn2⟩ : ∃ nn : Nat, 1 + M % 100 = (nn : Int) ∧ (1 ≤ nn ∧ nn ≤ 100 ∧ oo + nn ≤ N) := ⟨(1 + M % 100).toNat, by have := Int.emod_nonneg M (show 100 ≠ 0 by omega); omega, by have := Int.emod_nonneg M (show 100 ≠ 0 by omega); have := Int.emod_lt_of_pos M (show (0 : Int) < 100 by omega); omega⟩
              have e5 : M.tmod 100 = M % 100 := Int.tmod_eq_emod_of_nonneg hM0
              have e3 : IntKind.i64.wrap (1 + M % 100) = (nn : Int) := by rw [IntKind.wrap_i64, hnn]; omega
              have hM1 : ¬ M < 0 := by omega
              have hq2 : ¬ (E : Int) < 100 := by omega
              have HPT : Hid (Calls Try.prog 48 #[.int .i64 (oo : Int), .int .i64 (nn : Int), .bool K, .pointer (some ⟨w.heap.size, 0, none⟩), .pointer (some ⟨w.heap.size + 1, 0, none⟩)] (wr.alloc (.cells #[.int .i64 A, .int .i64 M, .bool K] 79)).drew fun e w' => e = .returned (.tuple #[]) ∧ Hid (∃ v' ser, PsI w w' N bb bo c v' (P ++ [(oo, nn, ser)]) ∧ Off (fun i => i = w.heap.size + 1 ∨ v.ownBlock = some i) (wr.alloc (.cells #[.int .i64 A, .int .i64 M, .bool K] 79)).drew w')) := putI_any N bb bo c w h2 hc hcm oo nn K _ v P ((HQX.out _).later (Below.refl _ _).drew) hn2.1 hn2.2.1 hn2.2.2 (by have := HPK.out; omega)
              have s1 : (wr.alloc (.cells #[.int .i64 A, .int .i64 M, .bool K] 79)).drew.cell? ⟨wr.heap.size, 0, none⟩ = some (.int .i64 A) ∧ (wr.alloc (.cells #[.int .i64 A, .int .i64 M, .bool K] 79)).drew.cell? ⟨wr.heap.size, 1, none⟩ = some (.int .i64 M) ∧ (wr.alloc (.cells #[.int .i64 A, .int .i64 M, .bool K] 79)).drew.cell? ⟨wr.heap.size, 2, none⟩ = some (.bool K) ∧ (wr.alloc (.cells #[.int .i64 A, .int .i64 M, .bool K] 79)).drew.cell? ⟨w.heap.size, 0, none⟩ = some (.slice (some ⟨bb, bo, none⟩) N c) := by
                have hbx := heap_alloc_new wr (.cells #[.int .i64 A, .int .i64 M, .bool K] 79)
                refine ⟨?_, ?_, ?_, q0 _⟩
                · exact (show (wr.alloc _).cell? _ = _ by rw [cell_of hbx]; rfl)
                · exact (show (wr.alloc _).cell? _ = _ by rw [cell_of hbx]; rfl)
                · exact (show (wr.alloc _).cell? _ = _ by rw [cell_of hbx]; rfl)
              clear hnn hE
              go_region_held3 (fun W' => W'.cell? ⟨wr.heap.size, 0, none⟩ = some (.int .i64 A) ∧ W'.cell? ⟨wr.heap.size, 1, none⟩ = some (.int .i64 M) ∧ W'.cell? ⟨wr.heap.size, 2, none⟩ = some (.bool K) ∧ W'.cell? ⟨w.heap.size, 0, none⟩ = some (.slice (some ⟨bb, bo, none⟩) N c)) (first | exact s1 | exact s2) ((go_at_call 48; refine HPT.out.mono ?_; rintro e w9 ⟨rfl, hq9⟩; obtain ⟨v9, ser, hp9, ho9⟩ := hq9.out; have s2 : w9.cell? ⟨wr.heap.size, 0, none⟩ = some (.int .i64 A) ∧ w9.cell? ⟨wr.heap.size, 1, none⟩ = some (.int .i64 M) ∧ w9.cell? ⟨wr.heap.size, 2, none⟩ = some (.bool K) ∧ w9.cell? ⟨w.heap.size, 0, none⟩ = some (.slice (some ⟨bb, bo, none⟩) N c) := cut_kept HQ.out rfl hp9 ho9; have HP9 : Hid (PsI w w9 N bb bo c v9 (P ++ [(oo, nn, ser)])) := hp9; clear hp9 ho9 hq9))
              all_goals
                go_wp2
                go_roundw
                case rel => repeat (first | exact ⟨k + 1, by omega, by have := HK39.out; omega, by go_num, ⟨_, _, HP9.out, by rw [List.length_append, HPK.out]; rfl⟩⟩ | refine ⟨_, ?_⟩)
                case measure => simp [intOf]; omega
            · skip
              obtain ⟨nn, hnn, hn2⟩ : ∃ nn : Nat, 1 + M % (E : Int) = (nn : Int) ∧ (1 ≤ nn ∧ nn ≤ 100 ∧ oo + nn ≤ N) := ⟨(1 + M % (E : Int)).toNat, by have := Int.emod_nonneg M (show (E : Int) ≠ 0 by omega); omega, by have := Int.emod_nonneg M (show (E : Int) ≠ 0 by omega); have := Int.emod_lt_of_pos M (show (0 : Int) < (E : Int) by omega); omega⟩
              have e5 : M.tmod (E : Int) = M % (E : Int) := Int.tmod_eq_emod_of_nonneg hM0
              have e3 : IntKind.i64.wrap (1 + M % (E : Int)) = (nn : Int) := by rw [IntKind.wrap_i64, hnn]; omega
              have hM1 : ¬ M < 0 := by omega
              have hq2 : (E : Int) < 100 := by omega
              have hd0 : ¬ (E : Int) = 0 := by omega
              have hd1 : ¬ E = 0 := by omega
              have HPT : Hid (Calls Try.prog 48 #[.int .i64 (oo : Int), .int .i64 (nn : Int), .bool K, .pointer (some ⟨w.heap.size, 0, none⟩), .pointer (some ⟨w.heap.size + 1, 0, none⟩)] (wr.alloc (.cells #[.int .i64 A, .int .i64 M, .bool K] 79)).drew fun e w' => e = .returned (.tuple #[]) ∧ Hid (∃ v' ser, PsI w w' N bb bo c v' (P ++ [(oo, nn, ser)]) ∧ Off (fun i => i = w.heap.size + 1 ∨ v.ownBlock = some i) (wr.alloc (.cells #[.int .i64 A, .int .i64 M, .bool K] 79)).drew w')) := putI_any N bb bo c w h2 hc hcm oo nn K _ v P ((HQX.out _).later (Below.refl _ _).drew) hn2.1 hn2.2.1 hn2.2.2 (by have := HPK.out; omega)
              have s1 : (wr.alloc (.cells #[.int .i64 A, .int .i64 M, .bool K] 79)).drew.cell? ⟨wr.heap.size, 0, none⟩ = some (.int .i64 A) ∧ (wr.alloc (.cells #[.int .i64 A, .int .i64 M, .bool K] 79)).drew.cell? ⟨wr.heap.size, 1, none⟩ = some (.int .i64 M) ∧ (wr.alloc (.cells #[.int .i64 A, .int .i64 M, .bool K] 79)).drew.cell? ⟨wr.heap.size, 2, none⟩ = some (.bool K) ∧ (wr.alloc (.cells #[.int .i64 A, .int .i64 M, .bool K] 79)).drew.cell? ⟨w.heap.size, 0, none⟩ = some (.slice (some ⟨bb, bo, none⟩) N c) := by
                have hbx := heap_alloc_new wr (.cells #[.int .i64 A, .int .i64 M, .bool K] 79)
                refine ⟨?_, ?_, ?_, q0 _⟩
                · exact (show (wr.alloc _).cell? _ = _ by rw [cell_of hbx]; rfl)
                · exact (show (wr.alloc _).cell? _ = _ by rw [cell_of hbx]; rfl)
                · exact (show (wr.alloc _).cell? _ = _ by rw [cell_of hbx]; rfl)
              clear hnn hE
              go_region_held3 (fun W' => W'.cell? ⟨wr.heap.size, 0, none⟩ = some (.int .i64 A) ∧ W'.cell? ⟨wr.heap.size, 1, none⟩ = some (.int .i64 M) ∧ W'.cell? ⟨wr.heap.size, 2, none⟩ = some (.bool K) ∧ W'.cell? ⟨w.heap.size, 0, none⟩ = some (.slice (some ⟨bb, bo, none⟩) N c)) (first | exact s1 | exact s2) ((go_at_call 48; refine HPT.out.mono ?_; rintro e w9 ⟨rfl, hq9⟩; obtain ⟨v9, ser, hp9, ho9⟩ := hq9.out; have s2 : w9.cell? ⟨wr.heap.size, 0, none⟩ = some (.int .i64 A) ∧ w9.cell? ⟨wr.heap.size, 1, none⟩ = some (.int .i64 M) ∧ w9.cell? ⟨wr.heap.size, 2, none⟩ = some (.bool K) ∧ w9.cell? ⟨w.heap.size, 0, none⟩ = some (.slice (some ⟨bb, bo, none⟩) N c) := cut_kept HQ.out rfl hp9 ho9; have HP9 : Hid (PsI w w9 N bb bo c v9 (P ++ [(oo, nn, ser)])) := hp9; clear hp9 ho9 hq9))
              all_goals
                go_wp2
                go_roundw
                case rel => repeat (first | exact ⟨k + 1, by omega, by have := HK39.out; omega, by go_num, ⟨_, _, HP9.out, by rw [List.length_append, HPK.out]; rfl⟩⟩ | refine ⟨_, ?_⟩)
                case measure => simp [intOf]; omega
          · by_cases hq : (100 : Int) ≤ (E : Int)
            · skip
              have hnn : True := trivial
              have hn2 : 1 ≤ 1 ∧ 1 ≤ 100 ∧ oo + 1 ≤ N := by omega
              have e5 : Int.tmod 0 100 = 0 := by simp
              have hM1 : M < 0 := by omega
              have hq2 : ¬ (E : Int) < 100 := by omega
              have HPT : Hid (Calls Try.prog 48 #[.int .i64 (oo : Int), .int .i64 1, .bool K, .pointer (some ⟨w.heap.size, 0, none⟩), .pointer (some ⟨w.heap.size + 1, 0, none⟩)] (wr.alloc (.cells #[.int .i64 A, .int .i64 M, .bool K] 79)).drew fun e w' => e = .returned (.tuple #[]) ∧ Hid (∃ v' ser, PsI w w' N bb bo c v' (P ++ [(oo, 1, ser)]) ∧ Off (fun i => i = w.heap.size + 1 ∨ v.ownBlock = some i) (wr.alloc (.cells #[.int .i64 A, .int .i64 M, .bool K] 79)).drew w')) := putI_any N bb bo c w h2 hc hcm oo 1 K _ v P ((HQX.out _).later (Below.refl _ _).drew) hn2.1 hn2.2.1 hn2.2.2 (by have := HPK.out; omega)
              have s1 : (wr.alloc (.cells #[.int .i64 A, .int .i64 M, .bool K] 79)).drew.cell? ⟨wr.heap.size, 0, none⟩ = some (.int .i64 A) ∧ (wr.alloc (.cells #[.int .i64 A, .int .i64 M, .bool K] 79)).drew.cell? ⟨wr.heap.size, 1, none⟩ = some (.int .i64 M) ∧ (wr.alloc (.cells #[.int .i64 A, .int .i64 M, .bool K] 79)).drew.cell? ⟨wr.heap.size, 2, none⟩ = some (.bool K) ∧ (wr.alloc (.cells #[.int .i64 A, .int .i64 M, .bool K] 79)).drew.cell? ⟨w.heap.size, 0, none⟩ = some (.slice (some ⟨bb, bo, none⟩) N c) := by
                have hbx := heap_alloc_new wr (.cells #[.int .i64 A, .int .i64 M, .bool K] 79)
                refine ⟨?_, ?_, ?_, q0 _⟩
                · exact (show (wr.alloc _).cell? _ = _ by rw [cell_of hbx]; rfl)
                · exact (show (wr.alloc _).cell? _ = _ by rw [cell_of hbx]; rfl)
                · exact (show (wr.alloc _).cell? _ = _ by rw [cell_of hbx]; rfl)
              clear hnn hE
              go_region_held3 (fun W' => W'.cell? ⟨wr.heap.size, 0, none⟩ = some (.int .i64 A) ∧ W'.cell? ⟨wr.heap.size, 1, none⟩ = some (.int .i64 M) ∧ W'.cell? ⟨wr.heap.size, 2, none⟩ = some (.bool K) ∧ W'.cell? ⟨w.heap.size, 0, none⟩ = some (.slice (some ⟨bb, bo, none⟩) N c)) (first | exact s1 | exact s2) ((go_at_call 48; refine HPT.out.mono ?_; rintro e w9 ⟨rfl, hq9⟩; obtain ⟨v9, ser, hp9, ho9⟩ := hq9.out; have s2 : w9.cell? ⟨wr.heap.size, 0, none⟩ = some (.int .i64 A) ∧ w9.cell? ⟨wr.heap.size, 1, none⟩ = some (.int .i64 M) ∧ w9.cell? ⟨wr.heap.size, 2, none⟩ = some (.bool K) ∧ w9.cell? ⟨w.heap.size, 0, none⟩ = some (.slice (some ⟨bb, bo, none⟩) N c) := cut_kept HQ.out rfl hp9 ho9; have HP9 : Hid (PsI w w9 N bb bo c v9 (P ++ [(oo, 1, ser)])) := hp9; clear hp9 ho9 hq9))
              all_goals
                go_wp2
                go_roundw
                case rel => repeat (first | exact ⟨k + 1, by omega, by have := HK39.out; omega, by go_num, ⟨_, _, HP9.out, by rw [List.length_append, HPK.out]; rfl⟩⟩ | refine ⟨_, ?_⟩)
                case measure => simp [intOf]; omega
            · skip
              have hnn : True := trivial
              have hn2 : 1 ≤ 1 ∧ 1 ≤ 100 ∧ oo + 1 ≤ N := by omega
              have e5 : Int.tmod 0 (E : Int) = 0 := by simp
              have hM1 : M < 0 := by omega
              have hq2 : (E : Int) < 100 := by omega
              have hd0 : ¬ (E : Int) = 0 := by omega
              have hd1 : ¬ E = 0 := by omega
              have HPT : Hid (Calls Try.prog 48 #[.int .i64 (oo : Int), .int .i64 1, .bool K, .pointer (some ⟨w.heap.size, 0, none⟩), .pointer (some ⟨w.heap.size + 1, 0, none⟩)] (wr.alloc (.cells #[.int .i64 A, .int .i64 M, .bool K] 79)).drew fun e w' => e = .returned (.tuple #[]) ∧ Hid (∃ v' ser, PsI w w' N bb bo c v' (P ++ [(oo, 1, ser)]) ∧ Off (fun i => i = w.heap.size + 1 ∨ v.ownBlock = some i) (wr.alloc (.cells #[.int .i64 A, .int .i64 M, .bool K] 79)).drew w')) := putI_any N bb bo c w h2 hc hcm oo 1 K _ v P ((HQX.out _).later (Below.refl _ _).drew) hn2.1 hn2.2.1 hn2.2.2 (by have := HPK.out; omega)
              have s1 : (wr.alloc (.cells #[.int .i64 A, .int .i64 M, .bool K] 79)).drew.cell? ⟨wr.heap.size, 0, none⟩ = some (.int .i64 A) ∧ (wr.alloc (.cells #[.int .i64 A, .int .i64 M, .bool K] 79)).drew.cell? ⟨wr.heap.size, 1, none⟩ = some (.int .i64 M) ∧ (wr.alloc (.cells #[.int .i64 A, .int .i64 M, .bool K] 79)).drew.cell? ⟨wr.heap.size, 2, none⟩ = some (.bool K) ∧ (wr.alloc (.cells #[.int .i64 A, .int .i64 M, .bool K] 79)).drew.cell? ⟨w.heap.size, 0, none⟩ = some (.slice (some ⟨bb, bo, none⟩) N c) := by
                have hbx := heap_alloc_new wr (.cells #[.int .i64 A, .int .i64 M, .bool K] 79)
                refine ⟨?_, ?_, ?_, q0 _⟩
                · exact (show (wr.alloc _).cell? _ = _ by rw [cell_of hbx]; rfl)
                · exact (show (wr.alloc _).cell? _ = _ by rw [cell_of hbx]; rfl)
                · exact (show (wr.alloc _).cell? _ = _ by rw [cell_of hbx]; rfl)
              clear hnn hE
              go_region_held3 (fun W' => W'.cell? ⟨wr.heap.size, 0, none⟩ = some (.int .i64 A) ∧ W'.cell? ⟨wr.heap.size, 1, none⟩ = some (.int .i64 M) ∧ W'.cell? ⟨wr.heap.size, 2, none⟩ = some (.bool K) ∧ W'.cell? ⟨w.heap.size, 0, none⟩ = some (.slice (some ⟨bb, bo, none⟩) N c)) (first | exact s1 | exact s2) ((go_at_call 48; refine HPT.out.mono ?_; rintro e w9 ⟨rfl, hq9⟩; obtain ⟨v9, ser, hp9, ho9⟩ := hq9.out; have s2 : w9.cell? ⟨wr.heap.size, 0, none⟩ = some (.int .i64 A) ∧ w9.cell? ⟨wr.heap.size, 1, none⟩ = some (.int .i64 M) ∧ w9.cell? ⟨wr.heap.size, 2, none⟩ = some (.bool K) ∧ w9.cell? ⟨w.heap.size, 0, none⟩ = some (.slice (some ⟨bb, bo, none⟩) N c) := cut_kept HQ.out rfl hp9 ho9; have HP9 : Hid (PsI w w9 N bb bo c v9 (P ++ [(oo, 1, ser)])) := hp9; clear hp9 ho9 hq9))
              all_goals
                go_wp2
                go_roundw
                case rel => repeat (first | exact ⟨k + 1, by omega, by have := HK39.out; omega, by go_num, ⟨_, _, HP9.out, by rw [List.length_append, HPK.out]; rfl⟩⟩ | refine ⟨_, ?_⟩)
                case measure => simp [intOf]; omega
        · have hmx : max A 0 = 0 := by omega
          have ho0 : oo = 0 := by rw [hmx] at ho1; simp at ho1; omega
          clear hmx ho1
          subst ho0
          go_wp2_with fail
          have hwN : IntKind.i64.wrap (N : Int) = (N : Int) := by rw [IntKind.wrap_i64]; omega
          by_cases hM0 : 0 ≤ M
          · by_cases hq : (100 : Int) ≤ (N : Int)
            · skip
              obtain ⟨nn, hnn, hn2⟩ : ∃ nn : Nat, 1 + M % 100 = (nn : Int) ∧ (1 ≤ nn ∧ nn ≤ 100 ∧ 0 + nn ≤ N) := ⟨(1 + M % 100).toNat, by have := Int.emod_nonneg M (show 100 ≠ 0 by omega); omega, by have := Int.emod_nonneg M (show 100 ≠ 0 by omega); have := Int.emod_lt_of_pos M (show (0 : Int) < 100 by omega); omega⟩
              have e5 : M.tmod 100 = M % 100 := Int.tmod_eq_emod_of_nonneg hM0
              have e3 : IntKind.i64.wrap (1 + M % 100) = (nn : Int) := by rw [IntKind.wrap_i64, hnn]; omega
              have hM1 : ¬ M < 0 := by omega
              have hq2 : ¬ (N : Int) < 100 := by omega
              have HPT : Hid (Calls Try.prog 48 #[.int .i64 0, .int .i64 (nn : Int), .bool K, .pointer (some ⟨w.heap.size, 0, none⟩), .pointer (some ⟨w.heap.size + 1, 0, none⟩)] (wr.alloc (.cells #[.int .i64 A, .int .i64 M, .bool K] 79)).drew fun e w' => e = .returned (.tuple #[]) ∧ Hid (∃ v' ser, PsI w w' N bb bo c v' (P ++ [(0, nn, ser)]) ∧ Off (fun i => i = w.heap.size + 1 ∨ v.ownBlock = some i) (wr.alloc (.cells #[.int .i64 A, .int .i64 M, .bool K] 79)).drew w')) := putI_any N bb bo c w h2 hc hcm 0 nn K _ v P ((HQX.out _).later (Below.refl _ _).drew) hn2.1 hn2.2.1 hn2.2.2 (by have := HPK.out; omega)
              have s1 : (wr.alloc (.cells #[.int .i64 A, .int .i64 M, .bool K] 79)).drew.cell? ⟨wr.heap.size, 0, none⟩ = some (.int .i64 A) ∧ (wr.alloc (.cells #[.int .i64 A, .int .i64 M, .bool K] 79)).drew.cell? ⟨wr.heap.size, 1, none⟩ = some (.int .i64 M) ∧ (wr.alloc (.cells #[.int .i64 A, .int .i64 M, .bool K] 79)).drew.cell? ⟨wr.heap.size, 2, none⟩ = some (.bool K) ∧ (wr.alloc (.cells #[.int .i64 A, .int .i64 M, .bool K] 79)).drew.cell? ⟨w.heap.size, 0, none⟩ = some (.slice (some ⟨bb, bo, none⟩) N c) := by
                have hbx := heap_alloc_new wr (.cells #[.int .i64 A, .int .i64 M, .bool K] 79)
                refine ⟨?_, ?_, ?_, q0 _⟩
                · exact (show (wr.alloc _).cell? _ = _ by rw [cell_of hbx]; rfl)
                · exact (show (wr.alloc _).cell? _ = _ by rw [cell_of hbx]; rfl)
                · exact (show (wr.alloc _).cell? _ = _ by rw [cell_of hbx]; rfl)
              clear hnn
              go_region_held3 (fun W' => W'.cell? ⟨wr.heap.size, 0, none⟩ = some (.int .i64 A) ∧ W'.cell? ⟨wr.heap.size, 1, none⟩ = some (.int .i64 M) ∧ W'.cell? ⟨wr.heap.size, 2, none⟩ = some (.bool K) ∧ W'.cell? ⟨w.heap.size, 0, none⟩ = some (.slice (some ⟨bb, bo, none⟩) N c)) (first | exact s1 | exact s2) ((go_at_call 48; refine HPT.out.mono ?_; rintro e w9 ⟨rfl, hq9⟩; obtain ⟨v9, ser, hp9, ho9⟩ := hq9.out; have s2 : w9.cell? ⟨wr.heap.size, 0, none⟩ = some (.int .i64 A) ∧ w9.cell? ⟨wr.heap.size, 1, none⟩ = some (.int .i64 M) ∧ w9.cell? ⟨wr.heap.size, 2, none⟩ = some (.bool K) ∧ w9.cell? ⟨w.heap.size, 0, none⟩ = some (.slice (some ⟨bb, bo, none⟩) N c) := cut_kept HQ.out rfl hp9 ho9; have HP9 : Hid (PsI w w9 N bb bo c v9 (P ++ [(0, nn, ser)])) := hp9; clear hp9 ho9 hq9))
              all_goals
                go_wp2
                go_roundw
                case rel => repeat (first | exact ⟨k + 1, by omega, by have := HK39.out; omega, by go_num, ⟨_, _, HP9.out, by rw [List.length_append, HPK.out]; rfl⟩⟩ | refine ⟨_, ?_⟩)
                case measure => simp [intOf]; omega
            · skip
              obtain ⟨nn, hnn, hn2⟩ : ∃ nn : Nat, 1 + M % (N : Int) = (nn : Int) ∧ (1 ≤ nn ∧ nn ≤ 100 ∧ 0 + nn ≤ N) := ⟨(1 + M % (N : Int)).toNat, by have := Int.emod_nonneg M (show (N : Int) ≠ 0 by omega); omega, by have := Int.emod_nonneg M (show (N : Int) ≠ 0 by omega); have := Int.emod_lt_of_pos M (show (0 : Int) < (N : Int) by omega); omega⟩
              have e5 : M.tmod (N : Int) = M % (N : Int) := Int.tmod_eq_emod_of_nonneg hM0
              have e3 : IntKind.i64.wrap (1 + M % (N : Int)) = (nn : Int) := by rw [IntKind.wrap_i64, hnn]; omega
              have hM1 : ¬ M < 0 := by omega
              have hq2 : (N : Int) < 100 := by omega
              have hd0 : ¬ (N : Int) = 0 := by omega
              have hd1 : ¬ N = 0 := by omega
              have HPT : Hid (Calls Try.prog 48 #[.int .i64 0, .int .i64 (nn : Int), .bool K, .pointer (some ⟨w.heap.size, 0, none⟩), .pointer (some ⟨w.heap.size + 1, 0, none⟩)] (wr.alloc (.cells #[.int .i64 A, .int .i64 M, .bool K] 79)).drew fun e w' => e = .returned (.tuple #[]) ∧ Hid (∃ v' ser, PsI w w' N bb bo c v' (P ++ [(0, nn, ser)]) ∧ Off (fun i => i = w.heap.size + 1 ∨ v.ownBlock = some i) (wr.alloc (.cells #[.int .i64 A, .int .i64 M, .bool K] 79)).drew w')) := putI_any N bb bo c w h2 hc hcm 0 nn K _ v P ((HQX.out _).later (Below.refl _ _).drew) hn2.1 hn2.2.1 hn2.2.2 (by have := HPK.out; omega)
              have s1 : (wr.alloc (.cells #[.int .i64 A, .int .i64 M, .bool K] 79)).drew.cell? ⟨wr.heap.size, 0, none⟩ = some (.int .i64 A) ∧ (wr.alloc (.cells #[.int .i64 A, .int .i64 M, .bool K] 79)).drew.cell? ⟨wr.heap.size, 1, none⟩ = some (.int .i64 M) ∧ (wr.alloc (.cells #[.int .i64 A, .int .i64 M, .bool K] 79)).drew.cell? ⟨wr.heap.size, 2, none⟩ = some (.bool K) ∧ (wr.alloc (.cells #[.int .i64 A, .int .i64 M, .bool K] 79)).drew.cell? ⟨w.heap.size, 0, none⟩ = some (.slice (some ⟨bb, bo, none⟩) N c) := by
                have hbx := heap_alloc_new wr (.cells #[.int .i64 A, .int .i64 M, .bool K] 79)
                refine ⟨?_, ?_, ?_, q0 _⟩
                · exact (show (wr.alloc _).cell? _ = _ by rw [cell_of hbx]; rfl)
                · exact (show (wr.alloc _).cell? _ = _ by rw [cell_of hbx]; rfl)
                · exact (show (wr.alloc _).cell? _ = _ by rw [cell_of hbx]; rfl)
              clear hnn
              go_region_held3 (fun W' => W'.cell? ⟨wr.heap.size, 0, none⟩ = some (.int .i64 A) ∧ W'.cell? ⟨wr.heap.size, 1, none⟩ = some (.int .i64 M) ∧ W'.cell? ⟨wr.heap.size, 2, none⟩ = some (.bool K) ∧ W'.cell? ⟨w.heap.size, 0, none⟩ = some (.slice (some ⟨bb, bo, none⟩) N c)) (first | exact s1 | exact s2) ((go_at_call 48; refine HPT.out.mono ?_; rintro e w9 ⟨rfl, hq9⟩; obtain ⟨v9, ser, hp9, ho9⟩ := hq9.out; have s2 : w9.cell? ⟨wr.heap.size, 0, none⟩ = some (.int .i64 A) ∧ w9.cell? ⟨wr.heap.size, 1, none⟩ = some (.int .i64 M) ∧ w9.cell? ⟨wr.heap.size, 2, none⟩ = some (.bool K) ∧ w9.cell? ⟨w.heap.size, 0, none⟩ = some (.slice (some ⟨bb, bo, none⟩) N c) := cut_kept HQ.out rfl hp9 ho9; have HP9 : Hid (PsI w w9 N bb bo c v9 (P ++ [(0, nn, ser)])) := hp9; clear hp9 ho9 hq9))
              all_goals
                go_wp2
                go_roundw
                case rel => repeat (first | exact ⟨k + 1, by omega, by have := HK39.out; omega, by go_num, ⟨_, _, HP9.out, by rw [List.length_append, HPK.out]; rfl⟩⟩ | refine ⟨_, ?_⟩)
                case measure => simp [intOf]; omega
          · by_cases hq : (100 : Int) ≤ (N : Int)
            · skip
              have hnn : True := trivial
              have hn2 : 1 ≤ 1 ∧ 1 ≤ 100 ∧ 0 + 1 ≤ N := by omega
              have e5 : Int.tmod 0 100 = 0 := by simp
              have hM1 : M < 0 := by omega
              have hq2 : ¬ (N : Int) < 100 := by omega
              have HPT : Hid (Calls Try.prog 48 #[.int .i64 0, .int .i64 1, .bool K, .pointer (some ⟨w.heap.size, 0, none⟩), .pointer (some ⟨w.heap.size + 1, 0, none⟩)] (wr.alloc (.cells #[.int .i64 A, .int .i64 M, .bool K] 79)).drew fun e w' => e = .returned (.tuple #[]) ∧ Hid (∃ v' ser, PsI w w' N bb bo c v' (P ++ [(0, 1, ser)]) ∧ Off (fun i => i = w.heap.size + 1 ∨ v.ownBlock = some i) (wr.alloc (.cells #[.int .i64 A, .int .i64 M, .bool K] 79)).drew w')) := putI_any N bb bo c w h2 hc hcm 0 1 K _ v P ((HQX.out _).later (Below.refl _ _).drew) hn2.1 hn2.2.1 hn2.2.2 (by have := HPK.out; omega)
              have s1 : (wr.alloc (.cells #[.int .i64 A, .int .i64 M, .bool K] 79)).drew.cell? ⟨wr.heap.size, 0, none⟩ = some (.int .i64 A) ∧ (wr.alloc (.cells #[.int .i64 A, .int .i64 M, .bool K] 79)).drew.cell? ⟨wr.heap.size, 1, none⟩ = some (.int .i64 M) ∧ (wr.alloc (.cells #[.int .i64 A, .int .i64 M, .bool K] 79)).drew.cell? ⟨wr.heap.size, 2, none⟩ = some (.bool K) ∧ (wr.alloc (.cells #[.int .i64 A, .int .i64 M, .bool K] 79)).drew.cell? ⟨w.heap.size, 0, none⟩ = some (.slice (some ⟨bb, bo, none⟩) N c) := by
                have hbx := heap_alloc_new wr (.cells #[.int .i64 A, .int .i64 M, .bool K] 79)
                refine ⟨?_, ?_, ?_, q0 _⟩
                · exact (show (wr.alloc _).cell? _ = _ by rw [cell_of hbx]; rfl)
                · exact (show (wr.alloc _).cell? _ = _ by rw [cell_of hbx]; rfl)
                · exact (show (wr.alloc _).cell? _ = _ by rw [cell_of hbx]; rfl)
              clear hnn
              go_region_held3 (fun W' => W'.cell? ⟨wr.heap.size, 0, none⟩ = some (.int .i64 A) ∧ W'.cell? ⟨wr.heap.size, 1, none⟩ = some (.int .i64 M) ∧ W'.cell? ⟨wr.heap.size, 2, none⟩ = some (.bool K) ∧ W'.cell? ⟨w.heap.size, 0, none⟩ = some (.slice (some ⟨bb, bo, none⟩) N c)) (first | exact s1 | exact s2) ((go_at_call 48; refine HPT.out.mono ?_; rintro e w9 ⟨rfl, hq9⟩; obtain ⟨v9, ser, hp9, ho9⟩ := hq9.out; have s2 : w9.cell? ⟨wr.heap.size, 0, none⟩ = some (.int .i64 A) ∧ w9.cell? ⟨wr.heap.size, 1, none⟩ = some (.int .i64 M) ∧ w9.cell? ⟨wr.heap.size, 2, none⟩ = some (.bool K) ∧ w9.cell? ⟨w.heap.size, 0, none⟩ = some (.slice (some ⟨bb, bo, none⟩) N c) := cut_kept HQ.out rfl hp9 ho9; have HP9 : Hid (PsI w w9 N bb bo c v9 (P ++ [(0, 1, ser)])) := hp9; clear hp9 ho9 hq9))
              all_goals
                go_wp2
                go_roundw
                case rel => repeat (first | exact ⟨k + 1, by omega, by have := HK39.out; omega, by go_num, ⟨_, _, HP9.out, by rw [List.length_append, HPK.out]; rfl⟩⟩ | refine ⟨_, ?_⟩)
                case measure => simp [intOf]; omega
            · skip
              have hnn : True := trivial
              have hn2 : 1 ≤ 1 ∧ 1 ≤ 100 ∧ 0 + 1 ≤ N := by omega
              have e5 : Int.tmod 0 (N : Int) = 0 := by simp
              have hM1 : M < 0 := by omega
              have hq2 : (N : Int) < 100 := by omega
              have hd0 : ¬ (N : Int) = 0 := by omega
              have hd1 : ¬ N = 0 := by omega
              have HPT : Hid (Calls Try.prog 48 #[.int .i64 0, .int .i64 1, .bool K, .pointer (some ⟨w.heap.size, 0, none⟩), .pointer (some ⟨w.heap.size + 1, 0, none⟩)] (wr.alloc (.cells #[.int .i64 A, .int .i64 M, .bool K] 79)).drew fun e w' => e = .returned (.tuple #[]) ∧ Hid (∃ v' ser, PsI w w' N bb bo c v' (P ++ [(0, 1, ser)]) ∧ Off (fun i => i = w.heap.size + 1 ∨ v.ownBlock = some i) (wr.alloc (.cells #[.int .i64 A, .int .i64 M, .bool K] 79)).drew w')) := putI_any N bb bo c w h2 hc hcm 0 1 K _ v P ((HQX.out _).later (Below.refl _ _).drew) hn2.1 hn2.2.1 hn2.2.2 (by have := HPK.out; omega)
              have s1 : (wr.alloc (.cells #[.int .i64 A, .int .i64 M, .bool K] 79)).drew.cell? ⟨wr.heap.size, 0, none⟩ = some (.int .i64 A) ∧ (wr.alloc (.cells #[.int .i64 A, .int .i64 M, .bool K] 79)).drew.cell? ⟨wr.heap.size, 1, none⟩ = some (.int .i64 M) ∧ (wr.alloc (.cells #[.int .i64 A, .int .i64 M, .bool K] 79)).drew.cell? ⟨wr.heap.size, 2, none⟩ = some (.bool K) ∧ (wr.alloc (.cells #[.int .i64 A, .int .i64 M, .bool K] 79)).drew.cell? ⟨w.heap.size, 0, none⟩ = some (.slice (some ⟨bb, bo, none⟩) N c) := by
                have hbx := heap_alloc_new wr (.cells #[.int .i64 A, .int .i64 M, .bool K] 79)
                refine ⟨?_, ?_, ?_, q0 _⟩
                · exact (show (wr.alloc _).cell? _ = _ by rw [cell_of hbx]; rfl)
                · exact (show (wr.alloc _).cell? _ = _ by rw [cell_of hbx]; rfl)
                · exact (show (wr.alloc _).cell? _ = _ by rw [cell_of hbx]; rfl)
              clear hnn
              go_region_held3 (fun W' => W'.cell? ⟨wr.heap.size, 0, none⟩ = some (.int .i64 A) ∧ W'.cell? ⟨wr.heap.size, 1, none⟩ = some (.int .i64 M) ∧ W'.cell? ⟨wr.heap.size, 2, none⟩ = some (.bool K) ∧ W'.cell? ⟨w.heap.size, 0, none⟩ = some (.slice (some ⟨bb, bo, none⟩) N c)) (first | exact s1 | exact s2) ((go_at_call 48; refine HPT.out.mono ?_; rintro e w9 ⟨rfl, hq9⟩; obtain ⟨v9, ser, hp9, ho9⟩ := hq9.out; have s2 : w9.cell? ⟨wr.heap.size, 0, none⟩ = some (.int .i64 A) ∧ w9.cell? ⟨wr.heap.size, 1, none⟩ = some (.int .i64 M) ∧ w9.cell? ⟨wr.heap.size, 2, none⟩ = some (.bool K) ∧ w9.cell? ⟨w.heap.size, 0, none⟩ = some (.slice (some ⟨bb, bo, none⟩) N c) := cut_kept HQ.out rfl hp9 ho9; have HP9 : Hid (PsI w w9 N bb bo c v9 (P ++ [(0, 1, ser)])) := hp9; clear hp9 ho9 hq9))
              all_goals
                go_wp2
                go_roundw
                case rel => repeat (first | exact ⟨k + 1, by omega, by have := HK39.out; omega, by go_num, ⟨_, _, HP9.out, by rw [List.length_append, HPK.out]; rfl⟩⟩ | refine ⟨_, ?_⟩)
                case measure => simp [intOf]; omega
    · obtain rfl : k = l.length := by omega
      have HV0 : Hid (Ps2 w wr N bb bo c 0) := ⟨v, P, HQ.out, by have := HPK.out; omega, fun t h => absurd h (by omega), fun h => absurd h (by omega)⟩
      clear HQ HPK
      go_wp2_with fail
      go_loopw [10] (fun i ws => ∃ m : Nat, m < N + 100 ∧ m ≤ 700 ∧ i = .int .i64 m ∧ Hid (Ps2 w ws N bb bo c m)) (fun i _ => (N + 100 - (intOf i).toNat))
      case atStart => exact ⟨0, by omega, by omega, rfl, HV0.out⟩
      case round =>
        rename World => ws
        obtain ⟨m, hm1, hm2, rfl, HR⟩ := hrel
        obtain ⟨v2, P2, hp2⟩ := HR.out
        have HP2 : Hid _ := hp2
        clear hp2
        have r0 : ws.cell? ⟨w.heap.size, 0, none⟩ = some (.slice (some ⟨bb, bo, none⟩) N c) := by rw [cell_of HP2.out.1.kbx]; rfl
        by_cases hmN : (m : Int) < (N : Int)
        · obtain ⟨E, hE⟩ : ∃ E : Nat, N - m = E := ⟨_, rfl⟩
          have hsub : IntKind.i64.wrap ((N : Int) - (m : Int)) = (E : Int) := by rw [IntKind.wrap_i64]; omega
          have hwE : IntKind.i64.wrap (E : Int) = (E : Int) := by rw [IntKind.wrap_i64]; omega
          have hE1 : 1 ≤ E ∧ m + E = N := by omega
          clear hE
          by_cases hq : (100 : Int) ≤ (E : Int)
          · have hq2 : ¬ (E : Int) < 100 := by omega
            have HPT : Hid (∀ K, Calls Try.prog 48 #[.int .i64 (m : Int), .int .i64 100, .bool K, .pointer (some ⟨w.heap.size, 0, none⟩), .pointer (some ⟨w.heap.size + 1, 0, none⟩)] ws fun e w' => e = .returned (.tuple #[]) ∧ Hid (∃ v' ser, PsI w w' N bb bo c v' (P2 ++ [(m, 100, ser)]) ∧ Off (fun i => i = w.heap.size + 1 ∨ v2.ownBlock = some i) ws w')) := fun K => putI_any N bb bo c w h2 hc hcm m 100 K ws v2 P2 HP2.out.1 (by omega) (by omega) (by omega) (by have := HP2.out.2.1; omega)
            go_wp2_with (go_at_call 48; refine (HPT.out _).mono ?_; rintro e w9 ⟨rfl, hq9⟩; have HR9 : Hid (Ps2 w w9 N bb bo c (m + 100)) := (by obtain ⟨v9, ser, hp9, _⟩ := hq9.out; exact ps2_put (wr := ws) (v := v2) hp9 HP2.out.2.1 HP2.out.2.2.1 (.inl rfl)); have u0 : w9.cell? ⟨w.heap.size, 0, none⟩ = some (.slice (some ⟨bb, bo, none⟩) N c) := (by obtain ⟨v9, ser, hp9, _⟩ := hq9.out; rw [cell_of hp9.kbx]; rfl))
            all_goals
              go_roundw
              case rel => repeat (first | exact ⟨m + 100, by omega, by omega, by go_num, HR9.out⟩ | refine ⟨_, ?_⟩)
              case measure => simp [intOf]; omega
          · have hq2 : (E : Int) < 100 := by omega
            have HPT : Hid (∀ K, Calls Try.prog 48 #[.int .i64 (m : Int), .int .i64 (E : Int), .bool K, .pointer (some ⟨w.heap.size, 0, none⟩), .pointer (some ⟨w.heap.size + 1, 0, none⟩)] ws fun e w' => e = .returned (.tuple #[]) ∧ Hid (∃ v' ser, PsI w w' N bb bo c v' (P2 ++ [(m, E, ser)]) ∧ Off (fun i => i = w.heap.size + 1 ∨ v2.ownBlock = some i) ws w')) := fun K => putI_any N bb bo c w h2 hc hcm m E K ws v2 P2 HP2.out.1 (by omega) (by omega) (by omega) (by have := HP2.out.2.1; omega)
            go_wp2_with (go_at_call 48; refine (HPT.out _).mono ?_; rintro e w9 ⟨rfl, hq9⟩; have HR9 : Hid (Ps2 w w9 N bb bo c (m + 100)) := (by obtain ⟨v9, ser, hp9, _⟩ := hq9.out; exact ps2_put (wr := ws) (v := v2) hp9 HP2.out.2.1 HP2.out.2.2.1 (.inr hE1.2)); have u0 : w9.cell? ⟨w.heap.size, 0, none⟩ = some (.slice (some ⟨bb, bo, none⟩) N c) := (by obtain ⟨v9, ser, hp9, _⟩ := hq9.out; rw [cell_of hp9.kbx]; rfl))
            all_goals
              go_roundw
              case rel => repeat (first | exact ⟨m + 100, by omega, by omega, by go_num, HR9.out⟩ | refine ⟨_, ?_⟩)
              case measure => simp [intOf]; omega
        · obtain ⟨v7, P7, hc7, HO7⟩ := ps2_end HR.out (by omega) h1 hm2
          go_wp2
          go_ret
          first | exact ⟨v7, rfl, P7, HO7⟩ | exact ⟨v7, P7, rfl, HO7⟩
end Go.Proofs.Ythmolodkaboakaa
