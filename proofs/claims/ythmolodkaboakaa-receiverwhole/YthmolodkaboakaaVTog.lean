/- receiver.together: rows put together. -/
import Derived.Test.YthmolodkaboakaaVSmall
namespace Go.Proofs.Ythmolodkaboakaa
open Go.RowKit
set_option linter.unusedVariables false
/-- rows with one more among them. -/
def tog : List (Int × Int) → Int → Int → List (Int × Int)
  | [], x, y => [(x, y)]
  | r :: rs, x, y => if r.1 + r.2 < x then r :: tog rs x y else if x + y < r.1 then (x, y) :: tog rs r.1 r.2 else tog rs (min r.1 x) (max (r.1 + r.2) (x + y) - min r.1 x)
/-- where together stands: the box of the row at hand, what was gathered. -/
structure Tg (w wr : World) (gb : Nat) (x y : Int) (l : List (Int × Int)) (v : Value) : Prop where
  box : wr.heap[w.heap.size]? = some (.cells #[.int .i64 x, .int .i64 y] 60 (0, 0))
  gx : Gx wr gb (w.heap.size + 1) v l
  off : Off (fun i => i = gb) w wr
theorem Tg.start {w : World} {gb : Nat} (x y : Int) (h : w.heap[gb]? = some (.cells #[.slice none 0 0] 24 (0, 0))) : Tg w (w.alloc (.cells #[.int .i64 x, .int .i64 y] 60)) gb x y [] (.slice none 0 0) :=
  ⟨heap_alloc_new w _, ⟨old_block ((Below.refl _ w).alloc (Nat.le_refl _) _) h, rfl, .inl ⟨rfl, rfl⟩⟩, (Off.refl _ w).alloc _⟩
theorem Tg.lt {w wr : World} {gb : Nat} {x y : Int} {l : List (Int × Int)} {v : Value} (h : Tg w wr gb x y l v) : ∀ k, v.ownBlock = some k → w.heap.size < k ∧ k < wr.heap.size := by
  intro k e
  have h1 := own_ge h.gx.2 k e
  rcases h.gx.2.2 with ⟨rfl, _⟩ | ⟨g, cap, cur, rfl, _, hc, _⟩
  · cases e
  · cases e
    exact ⟨h1, (Array.getElem?_eq_some_iff.1 hc).1⟩
theorem Tg.alloc {w wr : World} {gb : Nat} {x y : Int} {l : List (Int × Int)} {v : Value} (h : Tg w wr gb x y l v) (o : Obj) : Tg w (wr.alloc o) gb x y l v :=
  have hb := (Below.refl _ wr).alloc (Nat.le_refl _) o
  ⟨old_block hb h.box, ⟨old_block hb h.gx.1, (Off.of_below (S := fun _ => False) hb).owns h.gx.2 (fun _ _ t => t)⟩, h.off.alloc o⟩
/-- behind a row that was gathered. -/
theorem Tg.add {w wr w' : World} {gb : Nat} {x y : Int} {l m : List (Int × Int)} {v v' : Value} (h : Tg w wr gb x y l v) (hgb : gb < w.heap.size) (hg : Gx w' gb (w.heap.size + 1) v' m) (ho : Off (fun i => i = gb ∨ v.ownBlock = some i) wr w') : Tg w w' gb x y m v' :=
  ⟨ho.at h.box (fun t => by rcases t with t | t; omega; have := h.lt _ t; omega), hg, h.off.trans ho (fun i hi t => by rcases t with t | t; exact t; have := h.lt i t; omega)⟩
theorem Tg.set {w wr : World} {gb : Nat} {x y : Int} {l : List (Int × Int)} {v : Value} (h : Tg w wr gb x y l v) (hgb : gb < w.heap.size) (p q : Int) : Tg w ((wr.setCell ⟨w.heap.size, 0, none⟩ (.int .i64 p)).setCell ⟨w.heap.size, 1, none⟩ (.int .i64 q)) gb p q l v := by
  have ho : Off (fun i => i = w.heap.size) wr ((wr.setCell ⟨w.heap.size, 0, none⟩ (.int .i64 p)).setCell ⟨w.heap.size, 1, none⟩ (.int .i64 q)) := ((Off.refl (fun i => i = w.heap.size) wr).setCell (p := ⟨w.heap.size, 0, none⟩) (.inr rfl) _).setCell (p := ⟨w.heap.size, 1, none⟩) (.inr rfl) _
  refine ⟨?_, ⟨ho.at h.gx.1 (fun t => by have : gb = w.heap.size := t; omega), ho.owns h.gx.2 (fun k e t => by have := h.lt k e; have : k = w.heap.size := t; omega)⟩, h.off.trans ho (fun i hi t => by have : i = w.heap.size := t; omega)⟩
  rw [heap_setCell_same _ _ _ _ _ _ (heap_setCell_same _ _ _ _ _ _ h.box)]
  rfl
theorem row_box {w wr w1 : World} {gb : Nat} {x y p q : Int} {l : List (Int × Int)} {v : Value} (h : Tg w wr gb x y l v) (hgb : gb < w.heap.size) (ho : Off (fun i => i = gb ∨ v.ownBlock = some i) (wr.alloc (.cells #[.int .i64 p, .int .i64 q] 60)) w1) : w1.heap[wr.heap.size]? = some (.cells #[.int .i64 p, .int .i64 q] 60 (0, 0)) :=
  ho.at (heap_alloc_new wr _) (fun t => by rcases t with t | t; have := h.off.size; omega; have := h.lt _ t; omega)
theorem tog_cons {L : List (Int × Int)} {k : Nat} (h : k < L.length) (x y : Int) : tog (L.drop k) x y = if L[k].1 + L[k].2 < x then L[k] :: tog (L.drop (k + 1)) x y else if x + y < L[k].1 then (x, y) :: tog (L.drop (k + 1)) L[k].1 L[k].2 else tog (L.drop (k + 1)) (min L[k].1 x) (max (L[k].1 + L[k].2) (x + y) - min L[k].1 x) := by
  rw [List.drop_eq_getElem_cons h, tog]
set_option maxRecDepth 20000 in
set_option maxHeartbeats 4000000 in
theorem vtog_any (gb : Nat) (L : List (Int × Int)) (a : Option Addr) (c : Nat) (x0 y0 : Int) (w : World) (h : w.heap[gb]? = some (.cells #[.slice none 0 0] 24 (0, 0))) (hr : RowC w a L) (hL : ∀ r ∈ L, (0 ≤ r.1 ∧ r.1 ≤ 512) ∧ (0 ≤ r.2 ∧ r.2 ≤ 512)) (hx : 0 ≤ x0 ∧ x0 ≤ 512) (hy : 0 ≤ y0 ∧ y0 ≤ 512) (hl : L.length ≤ 1000) (hg : 0 < L.length → ∀ bb, a = some bb → bb.block ≠ gb) :
    Calls Try.prog 62 #[.slice a L.length c, .agg #[.int .i64 x0, .int .i64 y0], .func (.func 63) #[] #[.pointer (some ⟨gb, 0, none⟩)]] w fun e w' => e = .returned (.tuple #[]) ∧ Hid (∃ v', Gx w' gb w.heap.size v' (tog L x0 y0) ∧ Off (fun i => i = gb) w w') := by
  have HR : Hid (RowC w a L) := hr
  have HL : Hid (∀ r ∈ L, (0 ≤ r.1 ∧ r.1 ≤ 512) ∧ (0 ≤ r.2 ∧ r.2 ≤ 512)) := hL
  have HG : Hid (0 < L.length → ∀ bb, a = some bb → bb.block ≠ gb) := hg
  have HS : Hid (Tg w (w.alloc (.cells #[.int .i64 x0, .int .i64 y0] 60)) gb x0 y0 [] (.slice none 0 0)) := Tg.start x0 y0 h
  have hgb : Hid (gb < w.heap.size) := (Array.getElem?_eq_some_iff.1 h).1
  clear h hr hL hg
  go_enter Try.func62, Try.ntmps62
  go_wp2_with fail
  generalize w.alloc (.cells #[.int .i64 x0, .int .i64 y0] 60) = W0 at HS ⊢
  go_loopw [11] (fun i wr => ∃ (k : Nat) (x y : Int) (l : List (Int × Int)) (v : Value), k ≤ L.length ∧ i = .int .i64 k ∧ 0 ≤ x ∧ x ≤ 1024 ∧ 0 ≤ y ∧ x + y ≤ 1024 ∧ l.length ≤ k ∧ Hid (tog L x0 y0 = l ++ tog (L.drop k) x y) ∧ Hid (Tg w wr gb x y l v)) (fun i _ => L.length - (intOf i).toNat)
  case atStart => exact ⟨0, x0, y0, [], _, by omega, rfl, by omega, by omega, by omega, by omega, by simp, rfl, HS.out⟩
  case round =>
    obtain ⟨k, x, y, l, v, hk, rfl, hx0, hx1, hy0, hxy, hll, HE, HT⟩ := hrel
    by_cases hlt : k < L.length
    · obtain ⟨b, off, rfl, hc⟩ := (HR.out.off HT.out.off (fun h0 bb e t => HG.out h0 bb e t)).2 (by omega)
      obtain ⟨hc1, hc2⟩ := hc k hlt
      obtain ⟨⟨p1, p2⟩, q1, q2⟩ := HL.out L[k] (List.getElem_mem hlt)
      have HD := tog_cons hlt x y
      have HTC : Hid (tog (L.drop k) x y = if L[k].1 + L[k].2 < x then L[k] :: tog (L.drop (k + 1)) x y else if x + y < L[k].1 then (x, y) :: tog (L.drop (k + 1)) L[k].1 L[k].2 else tog (L.drop (k + 1)) (min L[k].1 x) (max (L[k].1 + L[k].2) (x + y) - min L[k].1 x)) := HD
      clear HD hc
      rw [show L[k] = (L[k].1, L[k].2) from rfl] at HTC
      generalize L[k].1 = p at *
      generalize L[k].2 = q at *
      have b0 := cell_of (HT.out.alloc (.cells #[.int .i64 p, .int .i64 q] 60)).box 0
      have b1 := cell_of (HT.out.alloc (.cells #[.int .i64 p, .int .i64 q] 60)).box 1
      have HA : Hid (Tg w (wr.alloc (.cells #[.int .i64 p, .int .i64 q] 60)) gb x y l v) := HT.out.alloc _
      have HZ : Hid (w.heap.size + 1 ≤ (wr.alloc (.cells #[.int .i64 p, .int .i64 q] 60)).heap.size) := by
        have := (Array.getElem?_eq_some_iff.1 HA.out.box).1
        exact this
      have hl2 : l.length ≤ 100000 := by omega
      have hg2 : gb < w.heap.size + 1 := by have := hgb.out; omega
      by_cases h1 : p + q < x
      · rw [if_pos h1] at HTC
        go_wp2_with (go_at_call 63; refine (vadd_any gb (w.heap.size + 1) l p q _ v HA.out.gx hl2 hg2 HZ.out).mono ?_; rintro e w1 ⟨rfl, hq⟩)
        obtain ⟨v', hq1, hq2⟩ := hq.out
        have HT2 := HA.out.add hgb.out hq1 hq2
        go_roundw
        case rel => exact ⟨k + 1, x, y, l ++ [(p, q)], v', by omega, by go_num, by omega, by omega, by omega, by omega, by simp; omega, by show _ = _; rw [HE.out, HTC.out, List.append_assoc]; rfl, HT2⟩
        case measure => simp [intOf]; omega
      · rw [if_neg h1] at HTC
        by_cases h2 : x + y < p
        · rw [if_pos h2] at HTC
          go_wp2_with (go_at_call 63; refine (vadd_any gb (w.heap.size + 1) l x y _ v HA.out.gx hl2 hg2 HZ.out).mono ?_; rintro e w1 ⟨rfl, hq⟩; obtain ⟨v', hq1, hq2⟩ := hq.out; have HT2 : Hid (Tg w w1 gb x y (l ++ [(x, y)]) v') := HA.out.add hgb.out hq1 hq2; have HRB : Hid (w1.heap[wr.heap.size]? = some (.cells #[.int .i64 p, .int .i64 q] 60 (0, 0))) := row_box HT.out hgb.out hq2; have g0 := cell_of HRB.out 0; have g1 := cell_of HRB.out 1; have e0 := cell_of HT2.out.box 0; have e1 := cell_of HT2.out.box 1; have ff := frozen_of HT2.out.box; clear hq1 hq2 hq)
          have HT3 := HT2.out.set hgb.out p q
          go_roundw
          case rel => exact ⟨k + 1, p, q, l ++ [(x, y)], v', by omega, by go_num, by omega, by omega, by omega, by omega, by simp; omega, by show _ = _; rw [HE.out, HTC.out, List.append_assoc]; rfl, HT3⟩
          case measure => simp [intOf]; omega
        · rw [if_neg h2] at HTC
          have ff := frozen_of HA.out.box
          go_wp2
          have e1 : (if x < p then x else p) = min p x := by split <;> omega
          have e2 : (if p + q < x + y then x + y else p + q) = max (p + q) (x + y) := by split <;> omega
          have HT3 := HA.out.set hgb.out (if x < p then x else p) ((if p + q < x + y then x + y else p + q) - if x < p then x else p)
          have HF : Hid (tog L x0 y0 = l ++ tog (L.drop (k + 1)) (if x < p then x else p) ((if p + q < x + y then x + y else p + q) - if x < p then x else p)) := by show _ = _; rw [HE.out, HTC.out, e1, e2]
          go_roundw
          case rel => exact ⟨k + 1, _, _, l, v, by omega, by go_num, by split <;> omega, by split <;> omega, by rw [e1, e2]; omega, by rw [e1, e2]; omega, by omega, HF, HT3⟩
          case measure => simp [intOf]; omega
    · obtain rfl : k = L.length := by omega
      have b0 := cell_of HT.out.box 0
      have b1 := cell_of HT.out.box 1
      have HZ : Hid (w.heap.size + 1 ≤ wr.heap.size) := (Array.getElem?_eq_some_iff.1 HT.out.box).1
      have hl2 : l.length ≤ 100000 := by omega
      have hg2 : gb < w.heap.size + 1 := by have := hgb.out; omega
      go_wp2_with (go_at_call 63; refine (vadd_any gb (w.heap.size + 1) l x y _ v HT.out.gx hl2 hg2 HZ.out).mono ?_; rintro e w1 ⟨rfl, hq⟩)
      obtain ⟨v', hq1, hq2⟩ := hq.out
      have HT2 := HT.out.add hgb.out hq1 hq2
      have HEE : tog L x0 y0 = l ++ [(x, y)] := by rw [HE.out, List.drop_of_length_le (Nat.le_refl _), tog]
      go_end0
      exact ⟨rfl, v', ⟨HT2.gx.1, by rw [HEE]; exact own_base HT2.gx.2 (by omega)⟩, HT2.off⟩
end Go.Proofs.Ythmolodkaboakaa
