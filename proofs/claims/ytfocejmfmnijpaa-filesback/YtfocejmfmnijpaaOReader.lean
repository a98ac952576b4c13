/- The walks of octet's Reader: Read, Err, Left, next. -/
import Derived.Test.YtfocejmfmnijpaaOPut
import Derived.Deep.QuietTactic
import Derived.BigQuiet
namespace Go.Proofs.Ytfocejmfmnijpaa
open Go.RowKit

/-- A Reader: its block, the block of its bytes, where it is, its error. -/
structure Rd (w : World) (p q : Nat) (l : List Nat) (at_ : Nat) (er : Int) : Prop where
  here : w.heap[p]? = some (.cells #[.int .i64 at_, .int .i64 l.length, .slice (some ⟨q, 0, none⟩) l.length l.length, .int .i64 er] 93 (0, 0))
  all : Bs w q l
  le : at_ ≤ l.length
  ne : p ≠ q
theorem Rd.off {w w' : World} {p q : Nat} {l : List Nat} {at_ : Nat} {er : Int} {S : Nat → Prop} (h : Rd w p q l at_ er) (ho : Off S w w') (hp : ¬ S p) (hq : ¬ S q) : Rd w' p q l at_ er := ⟨ho.at h.here hp, h.all.off ho hq, h.le, h.ne⟩
theorem Rd.later {w w' : World} {p q : Nat} {l : List Nat} {at_ : Nat} {er : Int} (h : Rd w p q l at_ er) (hb : Below w.heap.size w w') : Rd w' p q l at_ er := h.off (S := fun _ => False) (Off.of_below hb) id id
theorem Rd.lt {w : World} {p q : Nat} {l : List Nat} {at_ : Nat} {er : Int} (h : Rd w p q l at_ er) : p < w.heap.size ∧ q < w.heap.size := ⟨(Array.getElem?_eq_some_iff.1 h.here).1, (Array.getElem?_eq_some_iff.1 h.all.here).1⟩
theorem Rd.reads {w : World} {p q : Nat} {l : List Nat} {at_ : Nat} {er : Int} (h : Rd w p q l at_ er) :
    w.cell? ⟨p, 0, none⟩ = some (.int .i64 at_) ∧ w.cell? ⟨p, 1, none⟩ = some (.int .i64 l.length) ∧ w.cell? ⟨p, 2, none⟩ = some (.slice (some ⟨q, 0, none⟩) l.length l.length) ∧ w.cell? ⟨p, 3, none⟩ = some (.int .i64 er) ∧ ∀ j, w.frozen? ⟨p, j, none⟩ = false :=
  ⟨by rw [cell_of h.here]; rfl, by rw [cell_of h.here]; rfl, by rw [cell_of h.here]; rfl, by rw [cell_of h.here]; rfl, fun j => frozen_of h.here j⟩
theorem off_set (w : World) (p j : Nat) (u : Value) : Off (fun k => k = p) w (w.setCell ⟨p, j, none⟩ u) := (Off.refl (fun k => k = p) w).setCell (p := ⟨p, j, none⟩) (.inr rfl) u
theorem Rd.fail {w : World} {p q : Nat} {l : List Nat} {at_ : Nat} {er : Int} (h : Rd w p q l at_ er) (er' : Int) : Rd (w.setCell ⟨p, 3, none⟩ (.int .i64 er')) p q l at_ er' :=
  ⟨by rw [heap_setCell_same _ _ _ _ _ _ h.here]; rfl, h.all.off (off_set w p 3 _) (fun e => h.ne e.symm), h.le, h.ne⟩
theorem Rd.step {w : World} {p q : Nat} {l : List Nat} {at_ : Nat} {er : Int} (h : Rd w p q l at_ er) (at2 : Nat) (hl : at2 ≤ l.length) : Rd (w.setCell ⟨p, 0, none⟩ (.int .i64 (at2 : Nat))) p q l at2 er :=
  ⟨by rw [heap_setCell_same _ _ _ _ _ _ h.here]; rfl, h.all.off (off_set w p 0 _) (fun e => h.ne e.symm), hl, h.ne⟩

theorem eqlReader (w : World) (a : Addr) : (binOp .eql 70 (.pointer (some a)) (.pointer none)).run Try.prog w = .ok (.bool false) w := by kernel_rfl

theorem err_any (w : World) (p q : Nat) (l : List Nat) (at_ : Nat) (er : Int) (h : Rd w p q l at_ er) :
    Calls Try.prog 41 #[.pointer (some ⟨p, 0, none⟩)] w fun e w' => e = .returned (.int .i64 er) ∧ w = w' := by
  obtain ⟨_, _, _, d3, _⟩ := h.reads
  go_enter Try.func41, Try.ntmps41
  go_wp2
  go_ret
  exact ⟨rfl, rfl⟩

theorem left_any (w : World) (p q : Nat) (l : List Nat) (at_ : Nat) (er : Int) (h : Rd w p q l at_ er) (hz : l.length ≤ 140737488351232) :
    Calls Try.prog 42 #[.pointer (some ⟨p, 0, none⟩)] w fun e w' => e = .returned (.int .i64 ((l.length - at_ : Nat) : Int)) ∧ ∃ n, w' = w.drewN n := by
  obtain ⟨d0, d1, _, _, _⟩ := h.reads
  have hle := h.le
  have HE : Hid ((l.length : Int) - (at_ : Int) = ((l.length - at_ : Nat) : Int)) := by show _ = _; omega
  clear h
  go_enter Try.func42, Try.ntmps42
  go_wp2
  go_quiet (fail)
  go_wp2
  go_ret
  exact ⟨ret_int HE.out, nq, rfl⟩

theorem next_err (w : World) (p q : Nat) (l : List Nat) (at_ : Nat) (er : Int) (n : Int) (h : Rd w p q l at_ er) (he : (er != 0) = true) :
    Calls Try.prog 77 #[.pointer (some ⟨p, 0, none⟩), .int .i64 n] w fun e w' => e = .returned (.slice none 0 0) ∧ w = w' := by
  have HE := err_any w p q l at_ er h
  go_enter Try.func77, Try.ntmps77
  go_wp2_with (go_at_call 41; refine HE.mono ?_; rintro e w' ⟨rfl, rfl⟩)
  go_ret
  exact ⟨rfl, rfl⟩

theorem next_short (w : World) (p q : Nat) (l : List Nat) (at_ : Nat) (n : Nat) (h : Rd w p q l at_ 0) (hz : l.length ≤ 140737488351232) (hn : l.length - at_ < n) :
    Calls Try.prog 77 #[.pointer (some ⟨p, 0, none⟩), .int .i64 n] w fun e w' => e = .returned (.slice none 0 0) ∧ Hid (Rd w' p q l at_ 7 ∧ Off (fun k => k = p) w w') := by
  have HE := err_any w p q l at_ 0 h
  have HLF := left_any w p q l at_ 0 h hz
  have HR : Hid (Rd w p q l at_ 0) := h
  have hn2 : ((l.length - at_ : Nat) : Int) < (n : Int) := by omega
  generalize l.length - at_ = d at HLF hn2
  clear h hn
  go_enter Try.func77, Try.ntmps77
  go_wp2_with (first | (go_at_call 41; refine HE.mono ?_; rintro e w' ⟨rfl, rfl⟩) | (go_at_call 42; refine HLF.mono ?_; rintro e w2 ⟨rfl, m, rfl⟩; have hr2 := HR.out.later (below_drewN (Below.refl _ _) m); obtain ⟨d0, d1, d2, d3, d4⟩ := hr2.reads))
  go_ret
  exact ⟨rfl, hr2.fail 7, (Off.of_below (below_drewN (Below.refl _ _) m)).trans (off_set _ p 3 _) (fun _ _ t => t)⟩

/-- bytes of a Reader's row. -/
theorem Bs.part {w : World} {q : Nat} {l : List Nat} (h : Bs w q l) (f n : Nat) (hn : f + n ≤ l.length) (o : Nat) (ho : 0 < n → o = f) : Row w (some ⟨q, o, none⟩) ((l.drop f).take n) := by
  have hl : ((l.drop f).take n).length = n := by rw [List.length_take, List.length_drop]; omega
  refine ⟨fun x hx => h.byte x (List.mem_of_mem_drop (List.mem_of_mem_take hx)), by have := h.len; omega, fun h0 => ⟨q, o, rfl, fun i hi => ?_⟩⟩
  rw [hl] at hi
  obtain rfl := ho (by omega)
  obtain ⟨b, off, he, hc⟩ := h.row.2.2 (by omega)
  cases he
  have := hc (o + i) (by omega)
  rw [Nat.zero_add] at this
  rw [this, List.getD_eq_getElem?_getD, List.getD_eq_getElem?_getD, List.getElem?_take_of_lt hi, List.getElem?_drop]

set_option maxHeartbeats 2000000 in
theorem next_ok (w : World) (p q : Nat) (l : List Nat) (at_ : Nat) (n : Nat) (h : Rd w p q l at_ 0) (hz : l.length ≤ 140737488351232) (hn : at_ + n ≤ l.length) :
    Calls Try.prog 77 #[.pointer (some ⟨p, 0, none⟩), .int .i64 n] w fun e w' => ∃ a c, e = .returned (.slice a n c) ∧ Hid (Rd w' p q l (at_ + n) 0 ∧ Row w' a ((l.drop at_).take n) ∧ Off (fun k => k = p) w w') := by
  have HE := err_any w p q l at_ 0 h
  have HLF := left_any w p q l at_ 0 h hz
  have HR : Hid (Rd w p q l at_ 0) := h
  have hn2 : (n : Int) ≤ ((l.length - at_ : Nat) : Int) := by omega
  generalize l.length - at_ = d at HLF hn2
  clear h
  go_enter Try.func77, Try.ntmps77
  go_wp2_with (first | (go_at_call 41; refine HE.mono ?_; rintro e w' ⟨rfl, rfl⟩) | (go_at_call 42; refine HLF.mono ?_; rintro e w2 ⟨rfl, m, hw2⟩; have hb2 : Below w.heap.size w w2 := (by rw [hw2]; exact below_drewN (Below.refl _ _) m); have hr2 := HR.out.later hb2; obtain ⟨d0, d1, d2, d3, d4⟩ := hr2.reads; clear hw2))
  have hr3 := hr2.step (at_ + n) hn
  rw [Int.natCast_add] at hr3
  obtain ⟨e0, e1, e2, e3, e4⟩ := hr3.reads
  rw [Int.natCast_add] at e0
  have HR3 : Hid (∀ k, Rd ((w2.setCell ⟨p, 0, none⟩ (.int .i64 ((at_ : Int) + (n : Int)))).drewN k) p q l (at_ + n) 0 ∧ Off (fun k => k = p) w ((w2.setCell ⟨p, 0, none⟩ (.int .i64 ((at_ : Int) + (n : Int)))).drewN k)) := fun k => ⟨hr3.later (below_drewN (Below.refl _ _) k), ((Off.of_below hb2).trans (off_set _ p 0 _) (fun _ _ t => t)).trans (Off.of_below (S := fun _ => False) (below_drewN (Below.refl _ _) k)) (fun _ _ t => t.elim)⟩
  clear hr3 hr2
  go_quiet (fail)
  go_wp2
  · rename_i hh
    go_ret
    exact ⟨_, ⟨_, rfl⟩, (HR3.out _).1, (HR3.out _).1.all.part at_ n hn 0 (by omega), (HR3.out _).2⟩
  · go_ret
    exact ⟨_, ⟨_, rfl⟩, (HR3.out _).1, (HR3.out _).1.all.part at_ n hn at_ (fun _ => rfl), (HR3.out _).2⟩

/-- the number of bytes, the highest first. -/
def numN (l : List Nat) : Nat := l.foldl (fun x b => x * 256 + b) 0
theorem numN_snoc (l : List Nat) (b : Nat) : numN (l ++ [b]) = numN l * 256 + b := by simp [numN]
theorem fold_lt : ∀ (l : List Nat) (x : Nat), (∀ b ∈ l, b < 256) → l.foldl (fun x b => x * 256 + b) x < (x + 1) * 256 ^ l.length
  | [], x, _ => by simp
  | b :: r, x, h => by
    have h1 := fold_lt r (x * 256 + b) (fun y hy => h y (List.mem_cons_of_mem _ hy))
    have h2 := h b List.mem_cons_self
    rw [List.foldl_cons, List.length_cons, Nat.pow_succ]
    refine Nat.lt_of_lt_of_le h1 ?_
    rw [Nat.mul_comm (256 ^ r.length) 256, ← Nat.mul_assoc]
    exact Nat.mul_le_mul_right _ (by omega)
theorem numN_lt (l : List Nat) (h : ∀ x ∈ l, x < 256) : numN l < 256 ^ l.length := by
  have := fold_lt l 0 h
  rw [Nat.zero_add, Nat.one_mul] at this
  exact this
end Go.Proofs.Ytfocejmfmnijpaa
