/- The walks of sum.seal, Seal16 and Seal32: the bytes, and behind them the sum's bytes, the lowest first, in new memory. -/
import Derived.Test.YtnnaegeicffebaaRow
namespace Go.Proofs.Ytnnaegeicffebaa
open Go.RowKit

def cells (l : List Nat) : List Value := l.map fun x => Value.int .u8 (x : Nat)
theorem cells_length (l : List Nat) : (cells l).length = l.length := by simp [cells]
theorem cells_append (l m : List Nat) : cells (l ++ m) = cells l ++ cells m := by simp [cells]
theorem cells_one (x : Nat) : cells [x] = [Value.int .u8 (x : Nat)] := rfl
theorem Try.info5 : (Try.prog.info? 5).map (fun i => (i.zero, i.size, i.bytes)) = some (some (.int .u8 0), 1, 1) := by kernel_rfl

theorem row_cells {w : World} {a : Option Addr} {l : List Nat} (h : Row w a l) : ∀ b, a = some b → ∀ j u, (cells l)[j]? = some u → w.cell? (b.add j) = some u := by
  intro b hb j u hu
  obtain ⟨_, _, h3⟩ := h
  have hj : j < l.length := by
    rw [← cells_length l]
    exact (List.getElem?_eq_some_iff.1 hu).1
  obtain ⟨b', off, h4, hc⟩ := h3 (by omega)
  rw [hb] at h4
  cases h4
  rw [Go.WideShapes.add_plain, hc j hj]
  unfold cells at hu
  rw [List.getElem?_map, List.getElem?_eq_getElem hj] at hu
  simp only [Option.map_some, Option.some.injEq] at hu
  rw [← hu, List.getD_eq_getElem?_getD, List.getElem?_eq_getElem hj]
  rfl

/-- a row of the call's own reads as bytes. -/
theorem own_row {w : World} {base n : Nat} {v : Value} {l : List Nat} (h : w.ownsRow base 5 1 v n (cells l)) (hb : ∀ x ∈ l, x < 256) (hm : l.length ≤ maxLen) :
    ∃ a cap, v = .slice a l.length cap ∧ l.length ≤ cap ∧ cap ≤ maxLen ∧ Row w a l := by
  obtain ⟨hl, h⟩ := h
  rw [cells_length, Nat.mul_one] at hl
  subst hl
  rcases h with ⟨rfl, h0⟩ | ⟨g, cap, cur, rfl, _, hg, hnc, hcm, hcs, ht⟩
  · rw [h0]
    exact ⟨none, 0, rfl, Nat.le_refl _, by simp, hb, hm, fun h => absurd h (by omega)⟩
  · refine ⟨_, cap, rfl, hnc, hcm, hb, hm, fun h0 => ⟨g, 0, rfl, fun i hi => ?_⟩⟩
    have hcur : cur[i]? = some (Value.int .u8 ((l.getD i 0 : Nat) : Int)) := by
      have h1 : (cur.toList.take (l.length * 1))[i]? = cur.toList[i]? := List.getElem?_take_of_lt (by omega)
      rw [ht] at h1
      rw [← Array.getElem?_toList, ← h1]
      unfold cells
      rw [List.getElem?_map, List.getD_eq_getElem?_getD, List.getElem?_eq_getElem hi]
      rfl
    rw [Nat.zero_add]
    simp [World.cell?, hg, hcur]

theorem one_cell (l : List Nat) : ∀ u ∈ cells l, u.oneCell' = true := by
  intro u hu
  obtain ⟨x, _, rfl⟩ := List.mem_map.1 hu
  rfl

theorem own_base {w : World} {b b' : Nat} {e : TypeId} {size : Nat} {v : Value} {n : Nat} {xs : List Value} (h : w.ownsRow b e size v n xs) (hb : b' ≤ b) : w.ownsRow b' e size v n xs := by
  obtain ⟨h1, h2⟩ := h
  refine ⟨h1, ?_⟩
  rcases h2 with h2 | ⟨g, cap, cur, a1, a2, a3⟩
  · exact .inl h2
  · exact .inr ⟨g, cap, cur, a1, Nat.le_trans hb a2, a3⟩

theorem own_ge {w : World} {b : Nat} {e : TypeId} {size : Nat} {v : Value} {n : Nat} {xs : List Value} (h : w.ownsRow b e size v n xs) : ∀ k, v.ownBlock = some k → b ≤ k := by
  intro k hk
  rcases h.2 with ⟨rfl, _⟩ | ⟨g, cap, cur, rfl, a2, _⟩
  · cases hk
  · cases hk; exact a2

theorem own_snoc {w : World} {b b' n : Nat} {v : Value} {l : List Nat} {q : Nat} (h : w.ownsRow b 5 1 v n (cells l ++ [Value.int .u8 ((q : Int) % 256)])) (hb : b' ≤ b) : w.ownsRow b' 5 1 v n (cells (l ++ [q % 256])) := by
  rw [cells_append, cells_one]
  exact own_base h hb

set_option maxHeartbeats 1000000 in
theorem seal_any (a : Option Addr) (cap : Nat) (l : List Nat) (s n : Nat) (hs : s < 4294967296) (hn0 : 0 < n) (hn : n ≤ 4) (w : World) (hr : Row w a l) (hc : l.length ≤ cap) (_hcm : cap ≤ maxLen) (hz : l.length ≤ 140737488351232) :
    Calls Try.prog 25 #[.slice a l.length cap, .int .u32 s, .int .i64 n] w fun e w' => ∃ v, e = .returned v ∧ w'.ownsRow w.heap.size 5 1 v (l.length + n) (cells (l ++ Crc.le s n)) ∧ Below w.heap.size w w' := by
  obtain ⟨i0, hi, hz0, hz1, hz2⟩ := info_parts Try.info5
  have hm := hr.2.1
  unfold maxLen at hm _hcm
  have HR : Hid (Row w a l) := hr
  have HN : Hid (a = none → l.length = 0) := by
    intro h
    rcases Nat.eq_zero_or_pos l.length with h0 | h0
    · exact h0
    · obtain ⟨_, _, h1, _⟩ := hr.2.2 h0
      rw [h] at h1; cases h1
  clear hr
  go_enter Try.func25, Try.ntmps25
  go_wp2
  go_loopw [1, 7, 15] (fun u v i wr => ∃ k : Nat, k ≤ n ∧ i = .int .i64 k ∧ u = .int .u32 (s / 256 ^ k : Nat) ∧ (k = 0 → v = .slice a l.length l.length ∧ w = wr) ∧ (0 < k → wr.ownsRow w.heap.size 5 1 v (l.length + k) (cells (l ++ Crc.le s k))) ∧ Below w.heap.size w wr)
    (fun _ _ i _ => n - (intOf i).toNat)
  case atStart => exact ⟨0, by omega, rfl, by simp, fun _ => ⟨rfl, rfl⟩, fun h => absurd h (by omega), Below.refl _ _⟩
  case round =>
    obtain ⟨k, hk, rfl, rfl, h0, h1, hb⟩ := hrel
    have hlt : s / 256 ^ k < 4294967296 := Nat.lt_of_le_of_lt (Nat.div_le_self _ _) hs
    have HD : Hid (s / 256 ^ (k + 1) = s / 256 ^ k / 256) := Crc.div_succ s k
    have HL : Hid (Crc.le s (k + 1) = Crc.le s k ++ [s / 256 ^ k % 256]) := Crc.le_succ s k
    generalize s / 256 ^ k = q at hlt HD HL ⊢
    by_cases hkn : k < n
    · by_cases hk0 : k = 0
      · subst hk0
        obtain ⟨rfl, rfl⟩ := h0 rfl
        clear h0 h1
        go_wp2_with (at_builtin; go_must (refine wpList_append_grows _ rfl (.tmp 17) (.tmp 20) 22 rfl 5 i0 (.int .u8 0) 1 1 Try.underlying22 hi hz0 hz1 hz2 rfl (by decide) a l.length l.length (cells l) rfl ?c0 ?c1 ?c2 ⟨w.heap.size, 0, none⟩ 1 1 [.int .u8 ((q % 256 : Nat) : Int)] rfl rfl ?c3 ?c4 ?c5 ?c6 ?c7 ?_))
        case c0 => intro h; have := HN.out h; exact ⟨this, this⟩
        case c1 => rw [cells_length]; omega
        case c2 => exact row_cells (HR.out.later ((Below.refl _ _).alloc (Nat.le_refl _) _))
        case c3 => exact cell_one_new _ _ _
        case c4 => intro u hu; simp at hu; subst hu; rfl
        case c5 => omega
        case c6 => unfold maxLen; omega
        case c7 => omega
        · intro v' w1 hown hgrow
          have H1 : Hid (w1.ownsRow w.heap.size 5 1 v' (l.length + (0 + 1)) (cells (l ++ Crc.le s (0 + 1)))) := by
            show _
            rw [HL.out]
            exact own_snoc hown (by omega)
          have H2 : Hid (Below w.heap.size w w1) := ((Below.refl _ _).alloc (Nat.le_refl _) _).grown hgrow (by simp) (by intro k h; cases h)
          clear hown hgrow hb
          go_wp2
          go_roundw
          case rel => exact ⟨0 + 1, by omega, by go_num, by rw [HD.out]; go_num, fun h => absurd h (by omega), fun _ => H1.out, H2.out⟩
          case measure => simp [intOf]; omega
      · have hown0 := h1 (by omega)
        have hbs := hb.size
        clear h0 h1
        go_wp2_with (at_builtin; go_must (refine wpList_append_own _ rfl (.tmp 17) (.tmp 20) 22 rfl w.heap.size 5 i0 (.int .u8 0) 1 1 Try.underlying22 hi hz0 hz1 hz2 rfl (by decide) _ _ _ rfl (hown0.alloc _) ⟨wr.heap.size, 0, none⟩ 1 1 [.int .u8 ((q % 256 : Nat) : Int)] rfl rfl ?d1 ?d2 ?d3 ?d4 ?d5 ?_))
        case d1 => exact cell_one_new _ _ _
        case d2 => intro u hu; simp at hu; subst hu; rfl
        case d3 => unfold maxLen; omega
        case d4 => omega
        case d5 => simp; omega
        · intro v' w1 hown hgrow _
          have H1 : Hid (w1.ownsRow w.heap.size 5 1 v' (l.length + (k + 1)) (cells (l ++ Crc.le s (k + 1)))) := by
            show _
            rw [HL.out, ← List.append_assoc]
            exact own_snoc hown (Nat.le_refl _)
          have H2 : Hid (Below w.heap.size w w1) := (hb.alloc hbs _).grown hgrow (by simp; omega) (own_ge hown0)
          clear hown hgrow hb hown0
          go_wp2
          go_roundw
          case rel => exact ⟨k + 1, by omega, by go_num, by rw [HD.out]; go_num, fun h => absurd h (by omega), fun _ => H1.out, H2.out⟩
          case measure => simp [intOf]; omega
    · obtain rfl : k = n := by omega
      have hown0 := h1 (by omega)
      clear h0 h1
      go_wp2
      go_ret
      exact ⟨_, rfl, hown0, hb⟩

theorem le_maxLen {n : Nat} (h : n ≤ 140737488355328) : n ≤ maxLen := by unfold maxLen; omega

/-- what a sealing call answers: a new row that holds these bytes. -/
def Sealed (w : World) (m : List Nat) (e : Ending) (w' : World) : Prop :=
  ∃ a cap, e = .returned (.slice a m.length cap) ∧ m.length ≤ cap ∧ cap ≤ maxLen ∧ Row w' a m ∧ Below w.heap.size w w'

theorem sealed_of {w w' : World} {e : Ending} {v : Value} {n : Nat} {m : List Nat} (he : e = .returned v) (ho : w'.ownsRow w.heap.size 5 1 v n (cells m)) (hb : Below w.heap.size w w') (hm : ∀ x ∈ m, x < 256) (hl : m.length ≤ 140737488355328) :
    Sealed w m e w' := by
  obtain ⟨a, cap, rfl, h1, h2, h3⟩ := own_row ho hm (le_maxLen hl)
  exact ⟨a, cap, he, h1, h2, h3, hb⟩

def seal16 (l : List Nat) : List Nat := l ++ Crc.le (Crc.sum16 l) 2
def seal32 (l : List Nat) : List Nat := l ++ Crc.le (Crc.sum32 l) 4
theorem seal16_length (l : List Nat) : (seal16 l).length = l.length + 2 := by simp [seal16, Crc.le_length]
theorem seal32_length (l : List Nat) : (seal32 l).length = l.length + 4 := by simp [seal32, Crc.le_length]
theorem seal16_byte {l : List Nat} (h : ∀ x ∈ l, x < 256) : ∀ x ∈ seal16 l, x < 256 := by
  intro x hx
  rcases List.mem_append.1 hx with h1 | h1
  · exact h x h1
  · exact Crc.le_byte _ _ x h1
theorem seal32_byte {l : List Nat} (h : ∀ x ∈ l, x < 256) : ∀ x ∈ seal32 l, x < 256 := by
  intro x hx
  rcases List.mem_append.1 hx with h1 | h1
  · exact h x h1
  · exact Crc.le_byte _ _ x h1

set_option maxHeartbeats 400000 in
theorem seal16_any (a : Option Addr) (cap : Nat) (l : List Nat) (w : World) (hr : Row w a l) (hc : l.length ≤ cap) (hcm : cap ≤ maxLen) (hz : l.length ≤ 140737488351232) :
    Calls Try.prog 15 #[.slice a l.length cap] w (Sealed w (seal16 l)) := by
  have h16 := Crc.sum16_lt l hr.1
  have HR : Hid (Row w a l) := hr
  clear hr
  go_enter Try.func15, Try.ntmps15
  go_wp2_with fail
  refine (sum16_any _ _ _ _ HR.out).mono ?_
  rintro e w' ⟨rfl, rfl⟩
  go_wp2_with fail
  refine (seal_any a cap l (Crc.sum16 l) 2 (by omega) (by omega) (by omega) _ HR.out hc hcm hz).mono ?_
  rintro e w2 ⟨v, rfl, hown, hb⟩
  go_wp2
  go_ret
  exact sealed_of rfl hown hb (seal16_byte HR.out.1) (by rw [seal16_length]; omega)

set_option maxHeartbeats 400000 in
theorem seal32_any (a : Option Addr) (cap : Nat) (l : List Nat) (w : World) (hr : Row w a l) (hc : l.length ≤ cap) (hcm : cap ≤ maxLen) (hz : l.length ≤ 140737488351232) :
    Calls Try.prog 17 #[.slice a l.length cap] w (Sealed w (seal32 l)) := by
  have h32 := Crc.sum32_lt l hr.1
  have HR : Hid (Row w a l) := hr
  clear hr
  go_enter Try.func17, Try.ntmps17
  go_wp2_with fail
  refine (sum32_any _ _ _ _ HR.out).mono ?_
  rintro e w' ⟨rfl, rfl⟩
  go_wp2_with fail
  refine (seal_any a cap l (Crc.sum32 l) 4 (by omega) (by omega) (by omega) _ HR.out hc hcm hz).mono ?_
  rintro e w2 ⟨v, rfl, hown, hb⟩
  go_wp2
  go_ret
  exact sealed_of rfl hown hb (seal32_byte HR.out.1) (by rw [seal32_length]; omega)
end Go.Proofs.Ytnnaegeicffebaa
