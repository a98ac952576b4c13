/- octet's Reader up to U32, put, Put32. -/
import Derived.Test.YthmfbhanmncfgaaGMem
import Derived.Laws.Bits64b
namespace Go.Proofs.Ythmfbhanmncfgaa
open Go.RowKit
set_option linter.unusedVariables false

/-- A Reader: its block, the block of its bytes, where it is, its error. -/
structure Rd (w : World) (p q : Nat) (l : List Nat) (at_ : Nat) (er : Int) : Prop where
  here : w.heap[p]? = some (.cells #[.int .i64 at_, .int .i64 l.length, .slice (some ⟨q, 0, none⟩) l.length l.length, .int .i64 er] 62 (0, 0))
  all : Bs w q l
  le : at_ ≤ l.length
  ne : p ≠ q
theorem Rd.off {w w' : World} {p q : Nat} {l : List Nat} {at_ : Nat} {er : Int} {S : Nat → Prop} (h : Rd w p q l at_ er) (ho : Off S w w') (hp : ¬ S p) (hq : ¬ S q) : Rd w' p q l at_ er := ⟨ho.at h.here hp, h.all.off ho hq, h.le, h.ne⟩
theorem Rd.later {w w' : World} {p q : Nat} {l : List Nat} {at_ : Nat} {er : Int} (h : Rd w p q l at_ er) (hb : Below w.heap.size w w') : Rd w' p q l at_ er := h.off (S := fun _ => False) (Off.of_below hb) id id
theorem Rd.lt {w : World} {p q : Nat} {l : List Nat} {at_ : Nat} {er : Int} (h : Rd w p q l at_ er) : p < w.heap.size ∧ q < w.heap.size := ⟨(Array.getElem?_eq_some_iff.1 h.here).1, (Array.getElem?_eq_some_iff.1 h.all.here).1⟩
theorem Rd.reads {w : World} {p q : Nat} {l : List Nat} {at_ : Nat} {er : Int} (h : Rd w p q l at_ er) :
    w.cell? ⟨p, 0, none⟩ = some (.int .i64 at_) ∧ w.cell? ⟨p, 1, none⟩ = some (.int .i64 l.length) ∧ w.cell? ⟨p, 2, none⟩ = some (.slice (some ⟨q, 0, none⟩) l.length l.length) ∧ w.cell? ⟨p, 3, none⟩ = some (.int .i64 er) ∧ ∀ j, w.frozen? ⟨p, j, none⟩ = false :=
  ⟨by rw [cell_of h.here]; rfl, by rw [cell_of h.here]; rfl, by rw [cell_of h.here]; rfl, by rw [cell_of h.here]; rfl, fun j => frozen_of h.here j⟩
theorem off_set (w : World) (p j : Nat) (u : Value) : Off (fun k => k = p) w (w.setCell ⟨p, j, none⟩ u) := (Off.refl (fun k => k = p) w).setCell (p := ⟨p, j, none⟩) (.inr rfl) u
theorem Rd.fail {w : World} {p q : Nat} {l : List Nat} {at_ : Nat} {er : Int} (h : Rd w p q l at_ er) (er' : Int) : Rd (w.setCell ⟨p, 3, none⟩ (.int .i64 er')) p q l at_ er' :=
  ⟨by rw [heap_setCell_same _ _ _ _ _ _ h.here]; rfl, h.all.off (off_set w p 3 _) (fun e => h.ne e.symm), h.le, h.ne⟩
theorem Rd.step {w : World} {p q : Nat} {l : List Nat} {at_ : Nat} {er : Int} (h : Rd w p q l at_ er) (at2 : Nat) (hl : at2 ≤ l.length) : Rd (w.setCell ⟨p, 0, none⟩ (.int .i64 (at2 : Nat))) p q l at2 er :=
  ⟨by rw [heap_setCell_same _ _ _ _ _ _ h.here]; rfl, h.all.off (off_set w p 0 _) (fun e => h.ne e.symm), hl, h.ne⟩
theorem eqlReader (w : World) (a : Addr) : (binOp .eql 48 (.pointer (some a)) (.pointer none)).run Try.prog w = .ok (.bool false) w := by kernel_rfl
theorem err_any (w : World) (p q : Nat) (l : List Nat) (at_ : Nat) (er : Int) (h : Rd w p q l at_ er) :
    Calls Try.prog 47 #[.pointer (some ⟨p, 0, none⟩)] w fun e w' => e = .returned (.int .i64 er) ∧ w = w' := by
  obtain ⟨_, _, _, d3, _⟩ := h.reads
  go_enter Try.func47, Try.ntmps47
  go_wp2
  go_ret
  exact ⟨rfl, rfl⟩
theorem rleft_any (w : World) (p q : Nat) (l : List Nat) (at_ : Nat) (er : Int) (h : Rd w p q l at_ er) (hz : l.length ≤ 140737488351232) :
    Calls Try.prog 48 #[.pointer (some ⟨p, 0, none⟩)] w fun e w' => e = .returned (.int .i64 ((l.length - at_ : Nat) : Int)) ∧ ∃ n, w' = w.drewN n := by
  obtain ⟨d0, d1, _, _, _⟩ := h.reads
  have hle := h.le
  have HE : Hid ((l.length : Int) - (at_ : Int) = ((l.length - at_ : Nat) : Int)) := by show _ = _; omega
  clear h
  go_enter Try.func48, Try.ntmps48
  go_wp2
  go_quiet (fail)
  go_wp2
  go_ret
  exact ⟨ret_int HE.out, nq, rfl⟩
theorem next_err (w : World) (p q : Nat) (l : List Nat) (at_ : Nat) (er : Int) (n : Int) (h : Rd w p q l at_ er) (he : (er != 0) = true) :
    Calls Try.prog 42 #[.pointer (some ⟨p, 0, none⟩), .int .i64 n] w fun e w' => e = .returned (.slice none 0 0) ∧ w = w' := by
  have HE := err_any w p q l at_ er h
  go_enter Try.func42, Try.ntmps42
  go_wp2_with (go_at_call 47; refine HE.mono ?_; rintro e w' ⟨rfl, rfl⟩)
  go_ret
  exact ⟨rfl, rfl⟩
theorem next_short (w : World) (p q : Nat) (l : List Nat) (at_ : Nat) (n : Nat) (h : Rd w p q l at_ 0) (hz : l.length ≤ 140737488351232) (hn : l.length - at_ < n) :
    Calls Try.prog 42 #[.pointer (some ⟨p, 0, none⟩), .int .i64 n] w fun e w' => e = .returned (.slice none 0 0) ∧ Hid (Rd w' p q l at_ 7 ∧ Off (fun k => k = p) w w') := by
  have HE := err_any w p q l at_ 0 h
  have HLF := rleft_any w p q l at_ 0 h hz
  have HR : Hid (Rd w p q l at_ 0) := h
  have hn2 : ((l.length - at_ : Nat) : Int) < (n : Int) := by omega
  generalize l.length - at_ = d at HLF hn2
  clear h hn
  go_enter Try.func42, Try.ntmps42
  go_wp2_with (first | (go_at_call 47; refine HE.mono ?_; rintro e w' ⟨rfl, rfl⟩) | (go_at_call 48; refine HLF.mono ?_; rintro e w2 ⟨rfl, m, rfl⟩; have hr2 := HR.out.later (below_drewN (Below.refl _ _) m); obtain ⟨d0, d1, d2, d3, d4⟩ := hr2.reads))
  go_ret
  exact ⟨rfl, hr2.fail 7, (Off.of_below (below_drewN (Below.refl _ _) m)).trans (off_set _ p 3 _) (fun _ _ t => t)⟩
/-- bytes of a Reader's row. -/
theorem Bs.part {w : World} {q : Nat} {l : List Nat} (h : Bs w q l) (f n : Nat) (hn : f + n ≤ l.length) (o : Nat) (ho : 0 < n → o = f) : Row w (some ⟨q, o, none⟩) ((l.drop f).take n) := by
  have hl : ((l.drop f).take n).length = n := by rw [List.length_take, List.length_drop]; omega
  refine ⟨fun x hx => h.byte x (List.mem_of_mem_drop (List.mem_of_mem_take hx)), by have := h.len; omega, fun h0 => ⟨q, o, rfl, fun i hi => ?_⟩⟩
  rw [hl] at hi
  obtain rfl := ho (by omega)
  obtain ⟨b, off, he, hc⟩ := h.row.2.2 (by omega)
  cases he
  have := hc (o + i) (by omega)
  rw [Nat.zero_add] at this
  rw [this, List.getD_eq_getElem?_getD, List.getD_eq_getElem?_getD, List.getElem?_take_of_lt hi, List.getElem?_drop]
set_option maxHeartbeats 2000000 in
theorem next_ok (w : World) (p q : Nat) (l : List Nat) (at_ : Nat) (n : Nat) (h : Rd w p q l at_ 0) (hz : l.length ≤ 140737488351232) (hn : at_ + n ≤ l.length) :
    Calls Try.prog 42 #[.pointer (some ⟨p, 0, none⟩), .int .i64 n] w fun e w' => ∃ a c, e = .returned (.slice a n c) ∧ Hid (Rd w' p q l (at_ + n) 0 ∧ Row w' a ((l.drop at_).take n) ∧ Off (fun k => k = p) w w') := by
  have HE := err_any w p q l at_ 0 h
  have HLF := rleft_any w p q l at_ 0 h hz
  have HR : Hid (Rd w p q l at_ 0) := h
  have hn2 : (n : Int) ≤ ((l.length - at_ : Nat) : Int) := by omega
  generalize l.length - at_ = d at HLF hn2
  clear h
  go_enter Try.func42, Try.ntmps42
  go_wp2_with (first | (go_at_call 47; refine HE.mono ?_; rintro e w' ⟨rfl, rfl⟩) | (go_at_call 48; refine HLF.mono ?_; rintro e w2 ⟨rfl, m, hw2⟩; have hb2 : Below w.heap.size w w2 := (by rw [hw2]; exact below_drewN (Below.refl _ _) m); have hr2 := HR.out.later hb2; obtain ⟨d0, d1, d2, d3, d4⟩ := hr2.reads; clear hw2))
  have hr3 := hr2.step (at_ + n) hn
  rw [Int.natCast_add] at hr3
  obtain ⟨e0, e1, e2, e3, e4⟩ := hr3.reads
  rw [Int.natCast_add] at e0
  have HR3 : Hid (∀ k, Rd ((w2.setCell ⟨p, 0, none⟩ (.int .i64 ((at_ : Int) + (n : Int)))).drewN k) p q l (at_ + n) 0 ∧ Off (fun k => k = p) w ((w2.setCell ⟨p, 0, none⟩ (.int .i64 ((at_ : Int) + (n : Int)))).drewN k)) := fun k => ⟨hr3.later (below_drewN (Below.refl _ _) k), ((Off.of_below hb2).trans (off_set _ p 0 _) (fun _ _ t => t)).trans (Off.of_below (S := fun _ => False) (below_drewN (Below.refl _ _) k)) (fun _ _ t => t.elim)⟩
  clear hr3 hr2
  go_quiet (fail)
  go_wp2
  · rename_i hh
    go_ret
    exact ⟨_, ⟨_, rfl⟩, (HR3.out _).1, (HR3.out _).1.all.part at_ n hn 0 (by omega), (HR3.out _).2⟩
  · go_ret
    exact ⟨_, ⟨_, rfl⟩, (HR3.out _).1, (HR3.out _).1.all.part at_ n hn at_ (fun _ => rfl), (HR3.out _).2⟩
/-- the number of bytes, the highest first. -/
def numN (l : List Nat) : Nat := l.foldl (fun x b => x * 256 + b) 0
theorem numN_snoc (l : List Nat) (b : Nat) : numN (l ++ [b]) = numN l * 256 + b := by simp [numN]
theorem fold_lt : ∀ (l : List Nat) (x : Nat), (∀ b ∈ l, b < 256) → l.foldl (fun x b => x * 256 + b) x < (x + 1) * 256 ^ l.length
  | [], x, _ => by simp
  | b :: r, x, h => by
    have h1 := fold_lt r (x * 256 + b) (fun y hy => h y (List.mem_cons_of_mem _ hy))
    have h2 := h b List.mem_cons_self
    rw [List.foldl_cons, List.length_cons, Nat.pow_succ]
    refine Nat.lt_of_lt_of_le h1 ?_
    rw [Nat.mul_comm (256 ^ r.length) 256, ← Nat.mul_assoc]
    exact Nat.mul_le_mul_right _ (by omega)
theorem numN_lt (l : List Nat) (h : ∀ x ∈ l, x < 256) : numN l < 256 ^ l.length := by
  have := fold_lt l 0 h
  rw [Nat.zero_add, Nat.one_mul] at this
  exact this

theorem or_low (X y : Nat) (hX : X < 72057594037927936) (hy : y < 256) : bits .or .u64 ((X : Int) * 256) (y : Int) = ((X * 256 + y : Nat) : Int) := by
  have h := bits_or_u64_nat (X * 256) y (by omega) (by omega)
  rw [Int.natCast_mul] at h
  have h2 := Nat.shiftLeft_add_eq_or_of_lt (show y < 2 ^ 8 by omega) X
  rw [Nat.shiftLeft_eq] at h2
  rw [show ((256 : Int)) = ((256 : Nat) : Int) from rfl, h, ← h2]
/-- what a call that reads makes of a Reader: it stepped on, or has failed, or had an error. -/
def takes (l : List Nat) (at_ : Nat) (er : Int) (n : Nat) : List Nat × Nat × Int :=
  if (er != 0) = true then ([], at_, er) else if at_ + n ≤ l.length then ((l.drop at_).take n, at_ + n, 0) else ([], at_, 7)
theorem takes_err {l : List Nat} {at_ : Nat} {er : Int} {n : Nat} (h : (er != 0) = true) : takes l at_ er n = ([], at_, er) := by unfold takes; rw [if_pos h]
theorem takes_ok {l : List Nat} {at_ : Nat} {n : Nat} (h : at_ + n ≤ l.length) : takes l at_ 0 n = ((l.drop at_).take n, at_ + n, 0) := by unfold takes; rw [if_neg (by simp), if_pos h]
theorem takes_short {l : List Nat} {at_ : Nat} {n : Nat} (h : ¬ at_ + n ≤ l.length) : takes l at_ 0 n = ([], at_, 7) := by unfold takes; rw [if_neg (by simp), if_neg h]
theorem takes_len {l : List Nat} {at_ : Nat} {er : Int} {n : Nat} : (takes l at_ er n).1.length ≤ n := by
  unfold takes
  split
  · simp
  · split
    · simp [List.length_take]; omega
    · simp
theorem er_zero {er : Int} (h : ¬ (er != 0) = true) : er = 0 := by simpa using h
/-- next, whichever way. -/
theorem next_any (w : World) (p q : Nat) (l : List Nat) (at_ : Nat) (er : Int) (n : Nat) (h : Rd w p q l at_ er) (hz : l.length ≤ 140737488351232) :
    Calls Try.prog 42 #[.pointer (some ⟨p, 0, none⟩), .int .i64 n] w fun e w' => ∃ a c, e = .returned (.slice a (takes l at_ er n).1.length c) ∧ Hid (Rd w' p q l (takes l at_ er n).2.1 (takes l at_ er n).2.2 ∧ Row w' a (takes l at_ er n).1 ∧ Off (fun k => k = p) w w') := by
  by_cases he : (er != 0) = true
  · rw [takes_err he]
    refine (next_err w p q l at_ er n h he).mono ?_
    rintro e w' ⟨rfl, rfl⟩
    exact ⟨none, 0, rfl, h, row_nil _ _, Off.refl _ _⟩
  · obtain rfl := er_zero he
    by_cases hn : at_ + n ≤ l.length
    · rw [takes_ok hn]
      have hl : ((l.drop at_).take n).length = n := by rw [List.length_take, List.length_drop]; omega
      simp only [hl]
      exact next_ok w p q l at_ n h hz hn
    · rw [takes_short hn]
      refine (next_short w p q l at_ n h hz (by have := h.le; omega)).mono ?_
      rintro e w' ⟨rfl, hq⟩
      exact ⟨none, 0, rfl, hq.out.1, row_nil _ _, hq.out.2⟩
/-- what Reader's calls that answer a value leave. -/
def Reads (w : World) (p q : Nat) (l : List Nat) (t : List Nat × Nat × Int) (w' : World) : Prop := Rd w' p q l t.2.1 t.2.2 ∧ Off (fun k => k = p) w w'
set_option maxHeartbeats 2000000 in
theorem number_any (w : World) (p q : Nat) (l : List Nat) (at_ : Nat) (er : Int) (n : Nat) (h : Rd w p q l at_ er) (hz : l.length ≤ 140737488351232) (hn : n ≤ 8) :
    Calls Try.prog 31 #[.pointer (some ⟨p, 0, none⟩), .int .i64 n] w fun e w' => e = .returned (.int .u64 (numN (takes l at_ er n).1 : Nat)) ∧ Hid (Reads w p q l (takes l at_ er n) w') := by
  have HN := next_any w p q l at_ er n h hz
  have hl := takes_len (l := l) (at_ := at_) (er := er) (n := n)
  unfold Reads
  generalize takes l at_ er n = t at HN hl ⊢
  obtain ⟨m, at2, er2⟩ := t
  simp only at HN hl ⊢
  clear h
  go_enter Try.func31, Try.ntmps31
  go_wp2_with (go_at_call 42; refine HN.mono ?_; rintro e w1 ⟨a, c, rfl, hq⟩)
  go_loop [5, 12] (fun x i => ∃ k : Nat, k ≤ m.length ∧ i = .int .i64 k ∧ x = .int .u64 (numN (m.take k) : Nat)) (fun _ i => m.length - (intOf i).toNat)
  case atStart => exact ⟨0, Nat.zero_le _, rfl, rfl⟩
  case round =>
    obtain ⟨k, hk, rfl, rfl⟩ := hrel
    by_cases hkl : k < m.length
    · obtain ⟨b, o, rfl, hc⟩ := hq.out.2.1.2.2 (by omega)
      have hcell := hc k hkl
      have HS : Hid (numN (m.take (k + 1)) = numN (m.take k) * 256 + m.getD k 0) := by
        show _ = _
        rw [List.take_succ_eq_append_getElem hkl, numN_snoc, List.getD_eq_getElem?_getD, List.getElem?_eq_getElem hkl]; rfl
      have hx : numN (m.take k) < 72057594037927936 := by
        have h1 := numN_lt (m.take k) (fun x hx => hq.out.2.1.1 x (List.mem_of_mem_take hx))
        have h2 : (m.take k).length ≤ 7 := by rw [List.length_take]; omega
        exact Nat.lt_of_lt_of_le h1 (Nat.pow_le_pow_right (by omega) h2)
      have hb : m.getD k 0 < 256 := by
        rw [List.getD_eq_getElem?_getD, List.getElem?_eq_getElem hkl]
        exact hq.out.2.1.1 _ (List.getElem_mem hkl)
      have hi1 : (k : Int) < (m.length : Int) := by omega
      clear hc
      generalize m.getD k 0 = y at hcell HS hb
      generalize numN (m.take k) = X at HS hx ⊢
      have HOR : Hid (bits .or .u64 ((X : Int) * 256) (y : Int) = ((X * 256 + y : Nat) : Int)) := or_low X y hx hb
      go_wp2
      refine ⟨⟨k + 1, by omega, by go_num, by rw [HS.out, HOR.out]⟩, by simp [intOf]; omega⟩
    · obtain rfl : k = m.length := by omega
      rw [List.take_length]
      go_wp2
      go_ret
      exact ⟨rfl, hq.out.1, hq.out.2.2⟩
theorem u32_any (w : World) (p q : Nat) (l : List Nat) (at_ : Nat) (er : Int) (h : Rd w p q l at_ er) (hz : l.length ≤ 140737488351232) :
    Calls Try.prog 21 #[.pointer (some ⟨p, 0, none⟩)] w fun e w' => e = .returned (.int .u32 (numN (takes l at_ er 4).1 : Nat)) ∧ Hid (Reads w p q l (takes l at_ er 4) w') := by
  have HN := number_any w p q l at_ er 4 h hz (by omega)
  have hb : numN (takes l at_ er 4).1 < 4294967296 := by
    have h1 := numN_lt (takes l at_ er 4).1 (by
      unfold takes
      split
      · simp
      · split
        · intro x hx; exact h.all.byte x (List.mem_of_mem_drop (List.mem_of_mem_take hx))
        · simp)
    have h2 := takes_len (l := l) (at_ := at_) (er := er) (n := 4)
    exact Nat.lt_of_lt_of_le h1 (Nat.pow_le_pow_right (n := 256) (by omega) h2)
  generalize takes l at_ er 4 = t at HN hb ⊢
  generalize numN t.1 = X at HN hb ⊢
  go_enter Try.func21, Try.ntmps21
  go_wp2_with (go_at_call 31; refine HN.mono ?_; rintro e w1 ⟨rfl, hq⟩)
  go_ret
  exact ⟨rfl, hq⟩

theorem oread_any (w : World) (a : Option Addr) (c : Nat) (l : List Nat) (hr : Row w a l) (hz : l.length ≤ 140737488351232) :
    Calls Try.prog 20 #[.slice a l.length c] w fun e w' => ∃ p q, e = .returned (.pointer (some ⟨p, 0, none⟩)) ∧ Hid (Rd w' p q l 0 0 ∧ w.heap.size ≤ p ∧ w.heap.size ≤ q ∧ Below w.heap.size w w') := by
  have HF := fresh_any a c l w hr hz
  go_enter Try.func20, Try.ntmps20
  go_wp2_with (go_at_call 30; refine HF.mono ?_; rintro e w1 ⟨rfl, hbs, hbw⟩)
  go_ret
  have hlt := (Array.getElem?_eq_some_iff.1 hbs.here).1
  exact ⟨w1.heap.size, w.heap.size, rfl, ⟨heap_alloc_new w1 _, hbs.later ((Below.refl _ w1).alloc (Nat.le_refl _) _), Nat.zero_le _, by omega⟩, hbw.size, Nat.le_refl _, hbw.alloc hbw.size _⟩
theorem put_set (l : List Nat) (m : Nat) (r : List Nat) (b : Nat) : (cells (l ++ List.replicate (m + 1) 0 ++ r)).toArray.setIfInBounds (l.length + m) (.int .u8 (b : Nat)) = (cells (l ++ List.replicate m 0 ++ (b :: r))).toArray := by
  have h : l ++ List.replicate (m + 1) 0 ++ r = (l ++ List.replicate m 0) ++ 0 :: r := by simp [List.replicate_succ']
  rw [h, cells_append (l ++ List.replicate m 0) (0 :: r), cells_append (l ++ List.replicate m 0) (b :: r)]
  rw [List.setIfInBounds_toArray]
  congr 1
  rw [List.set_append_right _ _ (by rw [cells_length]; simp)]
  congr 1
  have : l.length + m - (cells (l ++ List.replicate m 0)).length = 0 := by rw [cells_length]; simp
  rw [this]
  rfl
set_option maxRecDepth 20000 in
set_option maxHeartbeats 2000000 in
theorem oput_any (a : Option Addr) (cap : Nat) (l : List Nat) (x k : Nat) (w : World) (hr : Row w a l) (hz : l.length ≤ 140737488351232) (hx : x < 18446744073709551616) (hk : k ≤ 8) :
    Calls Try.prog 28 #[.slice a l.length cap, .int .u64 x, .int .i64 k] w fun e w' => e = .returned (.slice (some ⟨w.heap.size, 0, none⟩) (l.length + k) (l.length + k)) ∧ Bs w' w.heap.size (l ++ be x k) ∧ Below w.heap.size w w' := by
  obtain ⟨i0, hi, hz0, hz1, hz2⟩ := info_parts Try.info5
  have HI : Hid _ := hi
  have HR : Hid (Row w a l) := hr
  clear hi hr
  have hb2 : i0.bytes * (l.length + k) ≤ 281474976710656 := by rw [hz2]; omega
  go_enter Try.func28, Try.ntmps28
  go_wp2_with (first | (at_make; refine wpList_make_full _ rfl _ _ 23 rfl w.heap.size 5 i0 _ 1 Try.underlying23 HI.out hz0 hz1 .i64 .i64 _ _ (l.length + k) (by rfl) (by rfl) (by omega) (by omega) hb2 (by unfold maxLen; omega) (Nat.le_refl _) ?_; intro w1 hown hgrow; obtain ⟨hm1, hm2⟩ := made_bytes hown hgrow; have HM1 : Hid _ := hm1; have HM2 : Hid _ := hm2; clear hown hgrow hm1 hm2) | ((refine wpList_copy_splice rfl _ _ 23 23 rfl 5 Try.underlying23 Try.size5 _ _ _ _ _ _ (by rfl) (by rfl) w.heap.size 0 _ 5 HM1.out (cells l) (by simp [cells_length]) (fun h0 => ⟨rfl, row_src (HR.out.later HM2.out) h0⟩) (by simp [cells_length]) (one_cell l) w.heap.size w HM2.out (Nat.le_refl _) ?_); intro w2 HC HB; have HB2 : Hid _ := HB; clear HB))
  have HS : Hid (w2.heap[w.heap.size]? = some (.cells (cells (l ++ List.replicate k 0 ++ be x 0)).toArray 5 (0, 0))) := by
    show _ = _
    rw [HC.out]
    simp only [splice, List.take_zero, List.nil_append, Nat.zero_add, cells_length]
    have h1 : (cells (List.replicate (l.length + k) 0)).drop l.length = cells (List.replicate k 0) := by
      simp [cells, List.map_replicate]
    rw [h1, cells_append, cells_append]
    simp [be, leN, cells]
  clear HC HM1 HM2
  go_loopw [1, 8] (fun u i wr => ∃ j : Nat, j ≤ k ∧ u = .int .u64 (x / 256 ^ j : Nat) ∧ i = .int .i64 ((l.length : Int) + (k : Int) - 1 - (j : Int)) ∧ Hid (wr.heap[w.heap.size]? = some (.cells (cells (l ++ List.replicate (k - j) 0 ++ be x j)).toArray 5 (0, 0)) ∧ Below w.heap.size w wr))
    (fun _ i _ => (intOf i + 1).toNat)
  case atStart => exact ⟨0, by omega, by simp, by simp, HS.out, HB2.out⟩
  case round =>
    obtain ⟨j, hj, rfl, rfl, HJ⟩ := hrel
    have hq : x / 256 ^ j < 18446744073709551616 := Nat.lt_of_le_of_lt (Nat.div_le_self _ _) hx
    have HD : Hid (x / 256 ^ (j + 1) = x / 256 ^ j / 256) := div_succ x j
    have HL : Hid (be x (j + 1) = x / 256 ^ j % 256 :: be x j) := be_succ x j
    generalize x / 256 ^ j = q at hq HD HL ⊢
    by_cases hjk : j < k
    · obtain ⟨m, hm⟩ : ∃ m, k = m + 1 + j := ⟨k - 1 - j, by omega⟩
      have HM : Hid (k = m + 1 + j) := hm
      rw [show (l.length : Int) + (k : Int) - 1 - (j : Int) = ((l.length + m : Nat) : Int) by omega]
      have i1 : (0 : Int) ≤ ((l.length + m : Nat) : Int) := Int.natCast_nonneg _
      have i2 : ((l.length + m : Nat) : Int) < ((l.length + k : Nat) : Int) := by omega
      have i3 : l.length + m < l.length + k := by omega
      have hblk : wr.heap[w.heap.size]? = some (.cells (cells (l ++ List.replicate (m + 1) 0 ++ be x j)).toArray 5 (0, 0)) := by
        rw [show m + 1 = k - j by omega]; exact HJ.out.1
      have hcell : ∃ u, wr.cell? ⟨w.heap.size, l.length + m, none⟩ = some u := by
        rw [cell_of hblk]
        exact ⟨_, Array.getElem?_eq_getElem (by simp [cells_length]; omega)⟩
      obtain ⟨u, hcell⟩ := hcell
      have hfr := frozen_of hblk (l.length + m)
      have HN : Hid ((wr.setCell ⟨w.heap.size, l.length + m, none⟩ (.int .u8 ((q % 256 : Nat) : Int))).heap[w.heap.size]? = some (.cells (cells (l ++ List.replicate (k - (j + 1)) 0 ++ be x (j + 1))).toArray 5 (0, 0)) ∧ Below w.heap.size w (wr.setCell ⟨w.heap.size, l.length + m, none⟩ (.int .u8 ((q % 256 : Nat) : Int)))) := by
        refine ⟨?_, HJ.out.2.setCell (p := ⟨w.heap.size, l.length + m, none⟩) (Nat.le_refl _) _⟩
        rw [heap_setCell_same _ _ _ _ _ _ hblk, HL.out, show k - (j + 1) = m by omega, put_set]
      clear hm hblk i2
      go_wp2
      have hm := HM.out
      refine ⟨⟨j + 1, by omega, ?_, ?_, HN⟩, ?_⟩
      · rw [HD.out]; congr 1
      · congr 1; omega
      · simp only [intOf]; omega
    · obtain rfl : j = k := by omega
      rw [show (l.length : Int) + (j : Int) - 1 - (j : Int) = (l.length : Int) - 1 by omega]
      go_wp2
      go_ret
      refine ⟨rfl, ⟨?_, ?_, ?_⟩, HJ.out.2⟩
      · have := HJ.out.1
        rw [Nat.sub_self, List.replicate_zero, List.append_nil] at this
        exact this
      · intro y hy
        rcases List.mem_append.1 hy with h | h
        · exact HR.out.1 y h
        · exact be_byte _ _ y h
      · rw [List.length_append, be_length]; unfold maxLen; omega
/-- a number's bytes behind l, in new memory. -/
def Puts (w : World) (m : List Nat) (e : Ending) (w' : World) : Prop := e = .returned (.slice (some ⟨w.heap.size, 0, none⟩) m.length m.length) ∧ Bs w' w.heap.size m ∧ Below w.heap.size w w'
theorem put32_any (a : Option Addr) (cap : Nat) (l : List Nat) (x : Nat) (w : World) (hr : Row w a l) (hz : l.length ≤ 140737488351232) (hx : x < 4294967296) : Calls Try.prog 18 #[.slice a l.length cap, .int .u32 x] w fun e w' => Puts w (l ++ be x 4) e w' := by
  have h := oput_any a cap l x 4 w hr hz (by omega) (by omega)
  have hl : (l ++ be x 4).length = l.length + 4 := by rw [List.length_append, be_length]
  unfold Puts
  rw [hl]
  go_enter Try.func18, Try.ntmps18
  go_wp2_with (go_at_call 28; refine h.mono ?_; rintro e w' ⟨rfl, h1⟩)
  go_ret
  exact ⟨rfl, h1⟩
end Go.Proofs.Ythmfbhanmncfgaa
