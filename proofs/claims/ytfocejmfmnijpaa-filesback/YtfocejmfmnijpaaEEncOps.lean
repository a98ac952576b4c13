/- The walk of files.EncodeOps. -/
import Derived.Test.YtfocejmfmnijpaaEOps
import Derived.Test.YtfocejmfmnijpaaFApply
namespace Go.Proofs.Ytfocejmfmnijpaa
open Go.RowKit

/-- Operations' bytes. -/
def encOps (l : List OpS) : List Nat := be l.length 2 ++ l.flatMap encOp
def encOpsT (l : List OpS) (k : Nat) : List Nat := be l.length 2 ++ (l.take k).flatMap encOp
theorem encOpsT_succ (l : List OpS) (k : Nat) (h : k < l.length) : encOpsT l (k + 1) = encOpsT l k ++ encOp l[k] := by
  unfold encOpsT
  rw [List.take_succ_eq_append_getElem h, List.flatMap_append, ← List.append_assoc]
  simp
theorem encOpsT_all (l : List OpS) : encOpsT l l.length = encOps l := by unfold encOpsT encOps; rw [List.take_length]
theorem encOpsT_length (l : List OpS) (k : Nat) (h : ∀ x ∈ l.take k, sayB x = true) : (encOpsT l k).length ≤ 2 + k * 4200 := by
  have : ((l.take k).flatMap encOp).length ≤ (l.take k).length * 4200 := by
    generalize l.take k = m at h
    induction m with
    | nil => simp
    | cons x r ih =>
      have h1 := encOp_length (h x List.mem_cons_self)
      have h2 := ih (fun y hy => h y (List.mem_cons_of_mem _ hy))
      rw [List.flatMap_cons, List.length_append, List.length_cons]
      omega
  have h2 : (l.take k).length ≤ k := by rw [List.length_take]; omega
  unfold encOpsT
  rw [List.length_append, be_length]
  have := Nat.mul_le_mul_right 4200 h2
  omega
theorem encOps_byte {l : List OpS} (h : ∀ x ∈ l, sayB x = true) (hb : ∀ x ∈ l, ∀ y ∈ x.bytes, y < 256) : ∀ x ∈ encOps l, x < 256 := by
  intro x hx
  rcases List.mem_append.1 hx with hx | hx
  · exact be_byte _ _ x hx
  · obtain ⟨f, hf, hx⟩ := List.mem_flatMap.1 hx
    exact encOp_byte (h f hf) (hb f hf) x hx
theorem OpsAt.bytes {w : World} {a : Option Addr} {l : List OpS} (h : OpsAt w a l) : ∀ x ∈ l, ∀ y ∈ x.bytes, y < 256 := by
  intro x hx
  obtain ⟨i, hi, rfl⟩ := List.getElem_of_mem hx
  obtain ⟨b, o, _, hc⟩ := h.2.2 (by omega)
  obtain ⟨_, _, _, _, _, _, _, _, _, h5⟩ := hc i hi
  exact h5.1

theorem old_cells {a b : World} {k : Nat} {o : Obj} (h : Below a.heap.size a b) (hk : a.heap[k]? = some o) : b.heap[k]? = some o := by
  rw [h.block k (Array.getElem?_eq_some_iff.1 hk).1]; exact hk

/-- What EncodeOps answers. -/
def EncOps (w : World) (l : List OpS) (e : Ending) (w' : World) : Prop :=
  (64 < l.length ∧ e = .returned (.tuple #[.slice none 0 0, .int .i64 3]) ∧ Hid (Below w.heap.size w w')) ∨
  (l.length ≤ 64 ∧ l.all sayB = false ∧ e = .returned (.tuple #[.slice none 0 0, .int .i64 151]) ∧ Hid (Below w.heap.size w w')) ∨
  (l.length ≤ 64 ∧ l.all sayB = true ∧ ∃ a' c', e = .returned (.tuple #[.slice a' (encOps l).length c', .int .i64 0]) ∧ Hid (Fresh w w' a' c' (encOps l) ∧ Below w.heap.size w w'))

set_option maxRecDepth 20000 in
set_option maxHeartbeats 4000000 in
theorem encodeOps_any (w : World) (a : Option Addr) (c : Nat) (l : List OpS) (h : OpsAt w a l) :
    Calls Try.prog 19 #[.slice a l.length c] w fun e w' => EncOps w l e w' := by
  have hln := h.2.1
  by_cases h64 : 64 < l.length
  · have h64i : (64 : Int) < (l.length : Int) := by omega
    have HE : Hid (64 < l.length) := h64
    clear h64
    go_enter Try.func19, Try.ntmps19
    go_wp2
    go_ret2
    exact .inl ⟨HE.out, rfl, Below.refl _ _⟩
  · have h64i : (l.length : Int) ≤ 64 := by omega
    have h64n : l.length ≤ 64 := by omega
    have HL : Hid (OpsAt w a l) := h
    clear h h64
    go_enter Try.func19, Try.ntmps19
    go_wp2_with (go_at_call 32; refine (fput16_any w w.heap.size (.slice none 0 0) [] l.length (World.ownsRow_nil _ _ _ _) (Nat.le_refl _) (by omega) (by simp)).mono ?_; rintro e w2 ⟨v2, rfl, hq2⟩)
    go_loopw [4, 15] (fun v i wr => ∃ k : Nat, k ≤ l.length ∧ i = .int .i64 k ∧ Hid (wr.ownsRow w.heap.size 5 1 v (encOpsT l k).length (cells (encOpsT l k)) ∧ Below w.heap.size w wr) ∧ Hid (∀ x ∈ l.take k, sayB x = true)) (fun _ i _ => l.length - (intOf i).toNat)
    case atStart => exact ⟨0, Nat.zero_le _, rfl, ⟨by have := hq2.out.1; simpa [encOpsT] using this, hq2.out.2.off.below (Nat.le_refl _) (by intro i h; cases h)⟩, by intro x hx; simp at hx⟩
    case round =>
      clear hq2
      obtain ⟨k, hk, rfl, hq, hall⟩ := hrel
      by_cases hkl : k < l.length
      · obtain ⟨b, o, rfl, hc⟩ := HL.out.2.2 (by omega)
        obtain ⟨f0, f1, f2, f3, ab, cb, f4, _, _, f7⟩ := hc k hkl
        have g0 := cell_later hq.out.2 f0
        have g1 := cell_later hq.out.2 f1
        have g2 := cell_later hq.out.2 f2
        have g3 := cell_later hq.out.2 f3
        have g4 := cell_later hq.out.2 f4
        have hfit := HL.out.1 _ (List.getElem_mem hkl)
        have HS : Hid _ := encOpsT_succ l k hkl
        have HTK : Hid (l.take (k + 1) = l.take k ++ [l[k]]) := List.take_succ_eq_append_getElem hkl
        have htl := encOpsT_length l k hall.out
        have HROW : Hid (Row w ab l[k].bytes) := f7
        have HMEM : Hid (l[k] ∈ l) := List.getElem_mem hkl
        have hi1 : (k : Int) < (l.length : Int) := by omega
        clear hc f0 f1 f2 f3 f4 f7
        obtain ⟨x, hx⟩ : ∃ x, x = l[k] := ⟨_, rfl⟩
        rw [← hx] at g0 g1 g2 g3 g4 hfit HS HTK HROW HMEM
        clear hx
        have HSB : Hid (∀ W, Calls Try.prog 44 #[opv x ab cb] W fun e w' => e = .returned (.bool (sayB x)) ∧ Hid (Below W.heap.size W w')) := fun W => sayable_any W x.kind x.name x.new x.at_ x.bytes ab cb hfit.1 hfit.2.1 hfit.2.2
        have HPO : Hid (sayB x = true → ∀ W v, W.ownsRow w.heap.size 5 1 v (encOpsT l k).length (cells (encOpsT l k)) → Below w.heap.size w W → Calls Try.prog 45 #[v, opv x ab cb] W fun e w' => More W w.heap.size v (encOpsT l (k + 1)) e w') := fun hs W v h1 h2 => by
          rw [HS.out]
          exact putOp_any W w.heap.size v _ x ab cb h1 h2.size hs (fun W2 hW => HROW.out.later (h2.trans hW)) (by omega)
        have HBX : Hid (∀ A, Below w.heap.size w (wr.alloc A) ∧ (wr.alloc A).ownsRow w.heap.size 5 1 u4 (encOpsT l k).length (cells (encOpsT l k))) := fun A => ⟨hq.out.2.alloc hq.out.2.size A, hq.out.1.alloc A⟩
        cases hsay : sayB x with
        | false =>
          have HAL : Hid (l.all sayB = false) := by
            show _ = _
            cases hh : l.all sayB with
            | false => rfl
            | true => rw [List.all_eq_true.1 hh x HMEM.out] at hsay; cases hsay
          rw [hsay] at HSB
          clear hsay hfit
          obtain ⟨xk, xn, xm, xt, xb⟩ := x
          simp only [opv] at *
          go_wp2_with (go_at_call 44; refine (HSB.out _).mono ?_; rintro e w3 ⟨rfl, hq3⟩)
          go_ret2
          exact .inr (.inl ⟨h64n, HAL.out, rfl, below_of (HBX.out _).1 hq3.out⟩)
        | true =>
          have HPO2 : Hid _ := HPO.out hsay
          have HALL : Hid (∀ y ∈ l.take (k + 1), sayB y = true) := by
            intro y hy
            rw [HTK.out] at hy
            rcases List.mem_append.1 hy with hy | hy
            · exact hall.out y hy
            · rw [List.mem_singleton.1 hy]; exact hsay
          rw [hsay] at HSB
          clear hsay hfit HPO
          obtain ⟨xk, xn, xm, xt, xb⟩ := x
          simp only [opv] at *
          have HBOX : Hid (∀ w3, Below (wr.alloc (.cells #[.int .i64 xk, .string xn, .string xm, .int .i64 xt, .slice ab xb.length cb] 44)).heap.size (wr.alloc (.cells #[.int .i64 xk, .string xn, .string xm, .int .i64 xt, .slice ab xb.length cb] 44)) w3 → w3.heap[wr.heap.size]? = some (.cells #[.int .i64 xk, .string xn, .string xm, .int .i64 xt, .slice ab xb.length cb] 44 (0, 0))) := fun w3 h3 => old_cells h3 (heap_alloc_new wr _)
          go_wp2_with (first | (go_at_call 44; refine (HSB.out _).mono ?_; rintro e w3 ⟨rfl, hq3⟩; have hb3 := HBOX.out w3 hq3.out; have e0 := cell_of hb3 0; have e1 := cell_of hb3 1; have e2 := cell_of hb3 2; have e3 := cell_of hb3 3; have e4 := cell_of hb3 4; simp only [List.getElem?_toArray, List.getElem?_cons_zero, List.getElem?_cons_succ] at e0 e1 e2 e3 e4) | (go_at_call 45; refine (HPO2.out w3 u4 ((Off.of_below (S := fun _ => False) hq3.out).owns (HBX.out _).2 (fun _ _ => id)) (below_of (HBX.out _).1 hq3.out)).mono ?_; rintro e w4 ⟨v4, rfl, hq4⟩))
          go_roundw
          case rel => exact ⟨k + 1, by omega, by go_num, ⟨hq4.out.1, (below_of (HBX.out _).1 hq3.out).trans (hq4.out.2.off.below (below_of (HBX.out _).1 hq3.out).size (own_ge (HBX.out (.cells #[] 5)).2))⟩, HALL.out⟩
          case measure => simp [intOf]; omega
      · obtain rfl : k = l.length := by omega
        have hal : ∀ x ∈ l, sayB x = true := by have := hall.out; rw [List.take_length] at this; exact this
        have ho := hq.out.1
        rw [encOpsT_all] at ho
        have htl := encOpsT_length l l.length hall.out
        rw [encOpsT_all] at htl
        obtain ⟨a', c', rfl, hf⟩ := fresh_of ho (encOps_byte hal HL.out.bytes) (by unfold maxLen; omega)
        have HF : Hid (Fresh w _ a' c' (encOps l) ∧ Below w.heap.size w _) := ⟨hf, hq.out.2⟩
        have HA : Hid (l.all sayB = true) := List.all_eq_true.2 hal
        clear ho hf hq hal
        go_wp2
        go_ret2
        exact .inr (.inr ⟨h64n, HA.out, a', c', rfl, HF.out⟩)
end Go.Proofs.Ytfocejmfmnijpaa
