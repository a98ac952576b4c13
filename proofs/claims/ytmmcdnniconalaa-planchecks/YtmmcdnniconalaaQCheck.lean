/- The walks of slices.IndexFunc and ContainsFunc at contacts, and of Check. -/
import Derived.Test.YtmmcdnniconalaaQSmall
namespace Go.Proofs.Ytmmcdnniconalaa
open Go.RowKit
set_option linter.unusedVariables false

def pv (n : Int) (a : Option Addr) (m k : Nat) : Value := .agg #[.int .i64 n, .slice a m k]
/-- the first k contacts may be. -/
def okK (n : Int) (X : List Ct) : Nat → Bool
  | 0 => true
  | k + 1 => okK n X k && (match X[k]? with | some c => okC c n && !((X.take k).any (mtC c)) | none => true)
/-- the plan may be. -/
def okP (n : Int) (X : List Ct) : Bool := wi n 2 6 && (decide (X.length ≤ 24) && okK n X X.length)
def chk (n : Int) (X : List Ct) : Int := if okP n X = true then 0 else 230
theorem okK_succ {n : Int} {X : List Ct} {k : Nat} {c : Ct} (h : X[k]? = some c) : okK n X (k + 1) = (okK n X k && (okC c n && !((X.take k).any (mtC c)))) := by rw [okK, h]
theorem okK_le {n : Int} {X : List Ct} {k m : Nat} (h : k ≤ m) (hm : okK n X m = true) : okK n X k = true := by
  obtain ⟨d, rfl⟩ : ∃ d, m = k + d := ⟨m - k, by omega⟩
  clear h
  induction d with
  | zero => exact hm
  | succ d ih =>
    rw [← Nat.add_assoc, okK, Bool.and_eq_true] at hm
    exact ih hm.1

theorem any_take {X : List Ct} {k : Nat} {d : Ct} (h : X[k]? = some d) (p : Ct → Bool) : (X.take (k + 1)).any p = ((X.take k).any p || p d) := by
  obtain ⟨hl, rfl⟩ := List.getElem?_eq_some_iff.1 h
  rw [List.take_succ_eq_append_getElem hl, List.any_append]
  simp only [List.any_cons, List.any_nil, Bool.or_false]
set_option maxHeartbeats 1000000 in
theorem index_any (c : Ct) (b m k : Nat) (a : Option Addr) (X : List Ct) (w : World) (hm : X.length = m) (h24 : m ≤ 24) (hX : CtAt (fun _ => False) w a X) (h : w.heap[b]? = some (.cells (cc c) 43 (0, 0))) :
    Calls Try.prog 29 #[.slice a m k, .func (.func 21) #[] #[.pointer (some ⟨b, 0, none⟩)]] w fun e w' => ∃ r : Int, e = .returned (.int .i64 r) ∧ decide (0 ≤ r) = X.any (mtC c) ∧ Below w.heap.size w w' := by
  go_enter Try.func29, Try.ntmps29
  go_wp2
  go_loopw [8] (fun i wr => ∃ j : Nat, j ≤ m ∧ i = .int .i64 j ∧ Hid (Below w.heap.size w wr ∧ (X.take j).any (mtC c) = false)) (fun i _ => m - (intOf i).toNat)
  case atStart => exact ⟨0, Nat.zero_le _, rfl, Below.refl _ _, rfl⟩
  case round =>
    obtain ⟨j, hj, rfl, HB⟩ := hrel
    by_cases hlt : j < m
    · obtain ⟨d, hd⟩ : ∃ d, X[j]? = some d := ⟨_, List.getElem?_eq_getElem (by omega)⟩
      obtain ⟨b', o, rfl, c0, c1, c2, c3, c4, c5⟩ := (hX.later HB.out.1).cells6 hd
      have HM : Hid (Calls Try.prog 21 #[cv d, .pointer (some ⟨b, 0, none⟩)] wr fun e w' => e = .returned (.bool (mtC c d)) ∧ Below wr.heap.size wr w') := meets_any c d b wr (old_block HB.out.1 h)
      have HT : Hid ((X.take (j + 1)).any (mtC c) = ((X.take j).any (mtC c) || mtC c d)) := any_take hd _
      have HX : Hid (X.any (mtC c) = ((X.take (j + 1)).any (mtC c) || (X.drop (j + 1)).any (mtC c))) := by
        show X.any (mtC c) = _
        rw [← List.any_append, List.take_append_drop]
      unfold cv at HM
      clear hX hd h
      go_wp2_with (go_at_call 21; refine HM.out.mono ?_; rintro e w' ⟨rfl, hb⟩)
      · go_ret
        rename_i hmt
        exact ⟨(j : Int), rfl, by rw [HX.out, HT.out, hmt]; simp, below_of HB.out.1 hb⟩
      · rename_i hmt
        go_roundw
        case rel => exact ⟨j + 1, by omega, by go_num, below_of HB.out.1 hb, by rw [HT.out, HB.out.2, hmt]; rfl⟩
        case measure => simp [intOf]; omega
    · go_wp2
      go_ret
      obtain rfl : j = m := by omega
      have e := HB.out.2
      rw [List.take_of_length_le (by omega)] at e
      exact ⟨-1, rfl, by rw [e]; rfl, HB.out.1⟩
theorem contains_any (c : Ct) (b m k : Nat) (a : Option Addr) (X : List Ct) (w : World) (hm : X.length = m) (h24 : m ≤ 24) (hX : CtAt (fun _ => False) w a X) (h : w.heap[b]? = some (.cells (cc c) 43 (0, 0))) :
    Calls Try.prog 24 #[.slice a m k, .func (.func 21) #[] #[.pointer (some ⟨b, 0, none⟩)]] w fun e w' => e = .returned (.bool (X.any (mtC c))) ∧ Below w.heap.size w w' := by
  have HI : Hid (Calls Try.prog 29 #[.slice a m k, .func (.func 21) #[] #[.pointer (some ⟨b, 0, none⟩)]] w fun e w' => ∃ r : Int, e = .returned (.int .i64 r) ∧ decide (0 ≤ r) = X.any (mtC c) ∧ Below w.heap.size w w') := index_any c b m k a X w hm h24 hX h
  clear hX h
  go_enter Try.func24, Try.ntmps24
  go_wp2_with (go_at_call 29; refine HI.out.mono ?_; rintro e w' ⟨r, rfl, hr, hb⟩)
  go_ret
  exact ⟨rfl, hb⟩

set_option maxHeartbeats 2000000 in
theorem check_any (n : Int) (a : Option Addr) (m k : Nat) (X : List Ct) (w : World) (hm : X.length = m) (hmk : m ≤ k) (hk : k ≤ maxLen) (hX : CtAt (fun _ => False) w a X) :
    Calls Try.prog 12 #[pv n a m k] w fun e w' => e = .returned (.int .i64 (chk n X)) ∧ Below w.heap.size w w' := by
  unfold maxLen at hk
  unfold pv
  by_cases hn : wi n 2 6 = true ∧ m ≤ 24
  · obtain ⟨hn, h24⟩ := hn
    go_enter Try.func12, Try.ntmps12
    go_wp2_with (go_at_call 20; refine (within_any _ _ _ _).mono ?_; rintro e w' ⟨rfl, rfl⟩)
    go_loopw [19] (fun i wr => ∃ j : Nat, j ≤ m ∧ i = .int .i64 j ∧ Hid (Below w.heap.size w wr ∧ okK n X j = true) ∧ wr.cell? ⟨w.heap.size, 0, none⟩ = some (.int .i64 n) ∧ wr.cell? ⟨w.heap.size, 1, none⟩ = some (.slice a m k)) (fun i _ => m - (intOf i).toNat)
    case atStart => exact ⟨0, Nat.zero_le _, rfl, ⟨(Below.refl _ w).alloc (Nat.le_refl _) _, rfl⟩, by rw [cell_of (heap_alloc_new w _)]; rfl, by rw [cell_of (heap_alloc_new w _)]; rfl⟩
    case round =>
      obtain ⟨j, hj, rfl, HB, cn, cs⟩ := hrel
      by_cases hlt : j < m
      · obtain ⟨c, hc⟩ : ∃ c, X[j]? = some c := ⟨_, List.getElem?_eq_getElem (by omega)⟩
        obtain ⟨b', o, rfl, c0, c1, c2, c3, c4, c5⟩ := (hX.later HB.out.1).cells6 hc
        have hBB : Below wr.heap.size wr (wr.alloc (.cells (cc c) 43)) := (Below.refl _ wr).alloc (Nat.le_refl _) _
        have HR : Hid (Calls Try.prog 23 #[cv c, .int .i64 n] (wr.alloc (.cells (cc c) 43)) fun e w' => e = .returned (.bool (okC c n)) ∧ Below (wr.alloc (.cells (cc c) 43)).heap.size (wr.alloc (.cells (cc c) 43)) w') := right_any _ _ _
        have HC : Hid (∀ W, Below (wr.alloc (.cells (cc c) 43)).heap.size (wr.alloc (.cells (cc c) 43)) W → Calls Try.prog 24 #[.slice (some ⟨b', o, none⟩) j k, .func (.func 21) #[] #[.pointer (some ⟨wr.heap.size, 0, none⟩)]] W fun e w' => e = .returned (.bool ((X.take j).any (mtC c))) ∧ Below W.heap.size W w') := fun W hW =>
          contains_any c wr.heap.size j k _ (X.take j) W (by rw [List.length_take]; omega) (by omega) (((hX.later HB.out.1).later (below_of hBB hW)).take j) (old_block hW (heap_alloc_new wr _))
        have HK : Hid (okK n X (j + 1) = (okK n X j && (okC c n && !((X.take j).any (mtC c))))) := okK_succ hc
        have HL : Hid (okC c n = true → (X.take j).any (mtC c) = false → okK n X (j + 1) = true) := fun e1 e2 => by rw [HK.out, HB.out.2, e1, e2]; rfl
        have HF : Hid (okC c n = false ∨ (X.take j).any (mtC c) = true → chk n X = 230) := by
          intro e
          have : okK n X (j + 1) = false := by rw [HK.out]; rcases e with e | e <;> simp [e]
          unfold chk okP
          rw [if_neg]
          intro h
          simp only [Bool.and_eq_true] at h
          have := okK_le (k := j + 1) (by omega) h.2.2
          simp_all
        have cn' := cell_later hBB cn
        have cs' := cell_later hBB cs
        unfold cv cc at HR
        unfold cc at HC hBB cn' cs'
        have HBB : Hid (Below wr.heap.size wr (wr.alloc _)) := hBB
        clear hBB hX hc HK
        go_wp2_with (first | (go_at_call 23; refine HR.out.mono ?_; rintro e w1 ⟨rfl, hb1⟩; have cn1 := cell_later hb1 cn'; have cs1 := cell_later hb1 cs'; have HB1 : Hid (Below (wr.alloc _).heap.size (wr.alloc _) w1) := hb1; clear hb1) | (have gd := HB1; go_at_call 24; refine (HC.out _ HB1.out).mono ?_; rintro e w2 ⟨rfl, hb2⟩; have cn2 := cell_later hb2 cn1; have cs2 := cell_later hb2 cs1; have HB2 : Hid (Below w1.heap.size w1 w2) := hb2; clear hb2))
        · go_ret
          exact ⟨ret_int (HF.out (.inr (by assumption))).symm, below_of HB.out.1 (below_of HBB.out (below_of HB1.out HB2.out))⟩
        · go_roundw
          case rel => exact ⟨j + 1, by omega, by go_num, ⟨below_of HB.out.1 (below_of HBB.out (below_of HB1.out HB2.out)), HL.out (by assumption) (by assumption)⟩, cn2, cs2⟩
          case measure => simp [intOf]; omega
        · go_ret
          exact ⟨ret_int (HF.out (.inl (by simpa using ‹¬ okC c n = true›))).symm, below_of HB.out.1 (below_of HBB.out HB1.out)⟩
      · go_wp2
        go_ret
        obtain rfl : j = m := by omega
        refine ⟨ret_int ?_, HB.out.1⟩
        unfold chk okP
        rw [if_pos]
        rw [hm, hn, HB.out.2]
        simp [h24]
  · have HV : Hid (chk n X = 230) := by
      show chk n X = 230
      unfold chk okP
      rw [if_neg]
      intro h
      simp only [Bool.and_eq_true, decide_eq_true_eq] at h
      exact hn ⟨h.1, by omega⟩
    have HN : Hid (¬ (wi n 2 6 = true ∧ m ≤ 24)) := hn
    clear hn hX
    go_enter Try.func12, Try.ntmps12
    by_cases h1 : wi n 2 6 = true
    · have h2 : 24 < m := Nat.lt_of_not_le (fun h => HN.out ⟨h1, h⟩)
      go_wp2_with (go_at_call 20; refine (within_any _ _ _ _).mono ?_; rintro e w' ⟨rfl, rfl⟩)
      go_ret
      exact ⟨ret_int HV.out.symm, (Below.refl _ w).alloc (Nat.le_refl _) _⟩
    · have h1' : wi n 2 6 = false := by simpa using h1
      clear h1
      go_wp2_with (go_at_call 20; refine (within_any _ _ _ _).mono ?_; rintro e w' ⟨rfl, rfl⟩)
      go_ret
      exact ⟨ret_int HV.out.symm, (Below.refl _ w).alloc (Nat.le_refl _) _⟩
end Go.Proofs.Ytmmcdnniconalaa
