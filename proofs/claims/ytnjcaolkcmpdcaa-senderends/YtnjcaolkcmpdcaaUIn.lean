/- sender.inBlock. -/
import Derived.Test.YtnjcaolkcmpdcaaUCopy
namespace Go.Proofs.Ytnjcaolkcmpdcaa
open Go.RowKit
set_option linter.unusedVariables false
/-- what rows have of a block of n bytes. -/
def clip (n : Int) (l : List (Int × Int)) : List (Int × Int) := (l.filter fun c => decide (c.1 < n)).map fun c => (c.1, min c.2 (n - c.1))
theorem clip_len (n : Int) (l : List (Int × Int)) : (clip n l).length ≤ l.length := by
  unfold clip
  rw [List.length_map]
  exact List.length_filter_le _ _
theorem clip_step (n : Int) (l : List (Int × Int)) (k : Nat) (hk : k < l.length) : clip n (l.take (k + 1)) = clip n (l.take k) ++ (if l[k].1 < n then [(l[k].1, min l[k].2 (n - l[k].1))] else []) := by
  rw [List.take_succ_eq_append_getElem hk]
  unfold clip
  rw [List.filter_append, List.map_append]
  by_cases h : l[k].1 < n
  · simp [h]
  · simp [h]
theorem claim_at (w : World) (x y : Int) : ∀ j u, (ccells [(x, y)])[j]? = some u → (w.alloc (.cells #[.int .i64 x, .int .i64 y] 56)).cell? ((⟨w.heap.size, 0, none⟩ : Addr).add j) = some u := by
  intro j u hu
  rw [Go.WideShapes.add_plain, cell_of (heap_alloc_new w _), Nat.zero_add]
  match j, hu with
  | 0, hu => simpa [ccells] using hu
  | 1, hu => simpa [ccells] using hu
  | j + 2, hu => simp [ccells] at hu
theorem claim_at1 (w : World) (X : Obj) (x y : Int) : ∀ j u, (ccells [(x, y)])[j]? = some u → ((w.alloc X).alloc (.cells #[.int .i64 x, .int .i64 y] 56)).cell? ((⟨w.heap.size + 1, 0, none⟩ : Addr).add j) = some u := by
  have := claim_at (w.alloc X) x y
  rw [show (w.alloc X).heap.size = w.heap.size + 1 by simp] at this
  exact this
set_option maxRecDepth 20000 in
set_option maxHeartbeats 4000000 in
theorem inBlock_any (w : World) (a : Option Addr) (c : Nat) (l : List (Int × Int)) (n : Nat) (h : RowC w a l) (hl : l.length ≤ 1000) (hin : ∀ x ∈ l, (0 ≤ x.1 ∧ x.1 ≤ 512) ∧ (0 ≤ x.2 ∧ x.2 ≤ 512)) (hn : n ≤ 512) :
    Calls Try.prog 75 #[.slice a l.length c, .int .i64 n] w fun e w' => ∃ a' c', e = .returned (.slice a' (clip n l).length c') ∧ Hid (Below w.heap.size w w' ∧ w'.ownsRow w.heap.size 56 2 (.slice a' (clip n l).length c') (clip n l).length (ccells (clip n l))) := by
  obtain ⟨i0, hi, hz0, hz1, hz2⟩ := info_parts Try.info56
  have HI : Hid _ := hi
  have HR : Hid (RowC w a l) := h
  have HM : Hid (∀ x ∈ l, (0 ≤ x.1 ∧ x.1 ≤ 512) ∧ (0 ≤ x.2 ∧ x.2 ≤ 512)) := hin
  clear hi h hin
  go_enter Try.func75, Try.ntmps75
  go_wp2
  go_loopw [5, 10] (fun v i wr => ∃ (k : Nat) (a' : Option Addr) (c' : Nat), k ≤ l.length ∧ i = .int .i64 k ∧ v = .slice a' (clip n (l.take k)).length c' ∧ Hid (Below w.heap.size w wr ∧ wr.ownsRow w.heap.size 56 2 (.slice a' (clip n (l.take k)).length c') (clip n (l.take k)).length (ccells (clip n (l.take k))))) (fun _ i _ => l.length - (intOf i).toNat)
  case atStart => exact ⟨0, none, 0, by omega, rfl, rfl, Below.refl _ _, ⟨rfl, .inl ⟨rfl, rfl⟩⟩⟩
  case round =>
    obtain ⟨k, a', c', hk, rfl, rfl, HK⟩ := hrel
    by_cases hlt : k < l.length
    · obtain ⟨b, off, rfl, hc⟩ := (HR.out.later HK.out.1).2 (by omega)
      obtain ⟨hc1, hc2⟩ := hc k hlt
      obtain ⟨⟨i1, i2⟩, i3, i4⟩ := HM.out l[k] (List.getElem_mem hlt)
      have HS : Hid (clip n (l.take (k + 1)) = clip n (l.take k) ++ (if l[k].1 < n then [(l[k].1, min l[k].2 (n - l[k].1))] else [])) := clip_step n l k hlt
      have hLL : (clip n (l.take k)).length ≤ 1000 := by have := clip_len n (l.take k); have := List.length_take_le k l; omega
      clear hc
      generalize l[k].1 = x at hc1 i1 i2 HS
      generalize l[k].2 = y at hc2 i3 i4 HS
      generalize clip n (l.take k) = L at HK HS hLL ⊢
      by_cases hx : x < (n : Int)
      · rw [if_pos hx] at HS
        by_cases hy : y ≤ (n : Int) - x
        · rw [Int.min_eq_left hy] at HS
          go_wp2_with (at_builtin; go_loud (refine wpList_append_lies _ rfl _ _ 27 rfl w.heap.size 56 i0 _ 2 16 Try.underlying27 HI.out hz0 hz1 hz2 rfl (by decide) (.slice a' L.length c') L.length (ccells L) (by rfl) ((HK.out.2.alloc _).alloc _) ⟨wr.heap.size + 1, 0, none⟩ 1 1 (ccells [(x, y)]) (by rfl) rfl (claim_at1 wr _ x _) (ccells_one _) (by decide) (by unfold maxLen; omega) (by omega) (Below.size (((HK.out.1).alloc HK.out.1.size _).alloc (Nat.le_trans HK.out.1.size (by simp)) _)) _ rfl ?_); intro g3 c3 w3 ho3 hg3 hat3 hlt3; have HN : Hid (Below w.heap.size w w3 ∧ w3.ownsRow w.heap.size 56 2 (.slice (some ⟨g3, 0, none⟩) (L.length + 1) c3) (L.length + 1) (ccells L ++ ccells [(x, y)])) := ⟨(((HK.out.1).alloc HK.out.1.size _).alloc (Nat.le_trans HK.out.1.size (by simp)) _).grown hg3 (Nat.le_trans HK.out.1.size (by simp; omega)) (fun k hk => own_ge HK.out.2 k hk), ho3⟩; clear ho3 hg3 hat3 hlt3)
          go_roundw
          case rel => exact ⟨k + 1, some ⟨g3, 0, none⟩, c3, by omega, by go_num, by rw [HS.out, List.length_append]; rfl, by rw [HS.out, ccells_append, List.length_append]; exact HN.out⟩
          case measure => simp [intOf]; omega
        · have hy2 : (n : Int) - x < y := by omega
          rw [Int.min_eq_right (Int.le_of_lt hy2)] at HS
          go_wp2_with (at_builtin; go_loud (refine wpList_append_lies _ rfl _ _ 27 rfl w.heap.size 56 i0 _ 2 16 Try.underlying27 HI.out hz0 hz1 hz2 rfl (by decide) (.slice a' L.length c') L.length (ccells L) (by rfl) ((HK.out.2.alloc _).alloc _) ⟨wr.heap.size + 1, 0, none⟩ 1 1 (ccells [(x, (n : Int) - x)]) (by rfl) rfl (claim_at1 wr _ x _) (ccells_one _) (by decide) (by unfold maxLen; omega) (by omega) (Below.size (((HK.out.1).alloc HK.out.1.size _).alloc (Nat.le_trans HK.out.1.size (by simp)) _)) _ rfl ?_); intro g3 c3 w3 ho3 hg3 hat3 hlt3; have HN : Hid (Below w.heap.size w w3 ∧ w3.ownsRow w.heap.size 56 2 (.slice (some ⟨g3, 0, none⟩) (L.length + 1) c3) (L.length + 1) (ccells L ++ ccells [(x, (n : Int) - x)])) := ⟨(((HK.out.1).alloc HK.out.1.size _).alloc (Nat.le_trans HK.out.1.size (by simp)) _).grown hg3 (Nat.le_trans HK.out.1.size (by simp; omega)) (fun k hk => own_ge HK.out.2 k hk), ho3⟩; clear ho3 hg3 hat3 hlt3)
          go_roundw
          case rel => exact ⟨k + 1, some ⟨g3, 0, none⟩, c3, by omega, by go_num, by rw [HS.out, List.length_append]; rfl, by rw [HS.out, ccells_append, List.length_append]; exact HN.out⟩
          case measure => simp [intOf]; omega
      · rw [if_neg hx, List.append_nil] at HS
        go_wp2
        go_roundw
        case rel => exact ⟨k + 1, a', c', by omega, by go_num, by rw [HS.out], ⟨(HK.out.1).alloc HK.out.1.size _, by rw [HS.out]; exact HK.out.2.alloc _⟩⟩
        case measure => simp [intOf]; omega
    · obtain rfl : k = l.length := by omega
      rw [List.take_length] at HK ⊢
      go_wp2
      go_ret
      exact ⟨_, _, rfl, HK⟩
end Go.Proofs.Ytnjcaolkcmpdcaa
