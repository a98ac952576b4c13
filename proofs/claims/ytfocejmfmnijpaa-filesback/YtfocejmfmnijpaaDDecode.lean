/- The walk of files.Decode. -/
import Derived.Test.YtfocejmfmnijpaaDFiles
import Derived.Test.YtfocejmfmnijpaaFApply
namespace Go.Proofs.Ytfocejmfmnijpaa
open Go.RowKit

/-- what is read of bytes: the files, where it ends, the error. -/
def readAll (l : List Nat) : List Fil × Nat × Int := rFiles l (numN (takes l 0 0 2).1) (takes l 0 0 2).2.1 (takes l 0 0 2).2.2 []
/-- The files of bytes, or why they are none. -/
def decG (l : List Nat) : Except Int (List Fil) := if ((readAll l).2.2 != 0) = true then .error (readAll l).2.2 else if 0 < l.length - (readAll l).2.1 ∨ rightB (readAll l).1 = false then .error 150 else .ok (readAll l).1

theorem takes_le {l : List Nat} {at_ : Nat} {er : Int} {n : Nat} : (takes l at_ er n).1.length ≤ l.length := by
  unfold takes
  split
  · simp
  · split
    · simp [List.length_take]; omega
    · simp
theorem counts_le {l : List Nat} {k at_ : Nat} {er : Int} : (counts l k at_ er).1.length ≤ l.length := takes_le
theorem rFiles_err {l : List Nat} {at_ : Nat} {er : Int} {acc : List Fil} (h : (er != 0) = true) : ∀ n, rFiles l n at_ er acc = (acc, at_, er)
  | 0 => rfl
  | n + 1 => by rw [rFiles, if_pos h]
theorem rFiles_small (l : List Nat) : ∀ (n at_ : Nat) (er : Int) (acc : List Fil), (∀ x ∈ acc, x.name.size ≤ l.length ∧ x.bytes.length ≤ l.length) → (∀ x ∈ (rFiles l n at_ er acc).1, x.name.size ≤ l.length ∧ x.bytes.length ≤ l.length) ∧ (rFiles l n at_ er acc).1.length ≤ acc.length + n
  | 0, _, _, acc, h => ⟨h, by simp [rFiles]⟩
  | n + 1, at_, er, acc, h => by
    rw [rFiles]
    split
    · exact ⟨h, by simp⟩
    · obtain ⟨h1, h2⟩ := rFiles_small l n (counts l 2 (counts l 1 at_ er).2.1 (counts l 1 at_ er).2.2).2.1 (counts l 2 (counts l 1 at_ er).2.1 (counts l 1 at_ er).2.2).2.2 (acc ++ [⟨nameOf (counts l 1 at_ er).1, (counts l 2 (counts l 1 at_ er).2.1 (counts l 1 at_ er).2.2).1⟩]) (fun x hx => by
        rcases List.mem_append.1 hx with hx | hx
        · exact h x hx
        · obtain rfl := List.mem_singleton.1 hx
          exact ⟨by show (nameOf _).size ≤ _; rw [nameOf_size]; exact counts_le, counts_le⟩)
      refine ⟨h1, ?_⟩
      rw [List.length_append, List.length_singleton] at h2
      omega
theorem cost_each {L : List Fil} {m : Nat} (h : ∀ x ∈ L, x.name.size ≤ m ∧ x.bytes.length ≤ m) : costS L ≤ L.length * (2 * m) := by
  induction L with
  | nil => simp [costS]
  | cons x r ih =>
    have e1 := h x List.mem_cons_self
    have := ih (fun y hy => h y (List.mem_cons_of_mem _ hy))
    simp only [costS, List.map_cons, List.sum_cons, List.length_cons] at this ⊢
    rw [Nat.add_mul, Nat.one_mul]
    omega
theorem readAll_cost (l : List Nat) (hb : ∀ x ∈ l, x < 256) (hz : l.length ≤ 1000000) : costS (readAll l).1 ≤ 4611686018427387904 := by
  obtain ⟨h1, h2⟩ := rFiles_small l (numN (takes l 0 0 2).1) (takes l 0 0 2).2.1 (takes l 0 0 2).2.2 [] (by simp)
  have h3 := takes_num (l := l) (at_ := 0) (er := 0) (n := 2) hb (by omega)
  have h4 := cost_each h1
  have h5 : (readAll l).1.length ≤ 65536 := by unfold readAll; simp at h2; omega
  have h6 : (readAll l).1.length * (2 * l.length) ≤ 65536 * 2000000 := Nat.mul_le_mul h5 (by omega)
  exact Nat.le_trans h4 (by unfold readAll at h6; omega)

/-- What Decode answers. -/
def Decoded (w : World) (res : Except Int (List Fil)) (e : Ending) (w' : World) : Prop :=
  (∃ L' a' c', res = .ok L' ∧ e = .returned (.tuple #[.agg #[.slice a' L'.length c'], .int .i64 0]) ∧ Hid (ListAt w' a' L' ∧ Below w.heap.size w w')) ∨
  (∃ r, res = .error r ∧ e = .returned (.tuple #[.agg #[.slice none 0 0], .int .i64 r]) ∧ Hid (Below w.heap.size w w'))

/-- the world within Decode. -/
structure DW (w wr : World) (p q : Nat) (l : List Nat) (a : Option Addr) (c : Nat) : Prop where
  res : wr.heap[w.heap.size]? = some (.cells #[.slice none 0 0] 24 (0, 0))
  rd : Rd wr p q l (readAll l).2.1 (readAll l).2.2
  list : ListAt wr a (readAll l).1
  below : Below w.heap.size w wr
theorem DW.later {w wr w2 : World} {p q : Nat} {l : List Nat} {a : Option Addr} {c : Nat} (h : DW w wr p q l a c) (hb : Below wr.heap.size wr w2) : DW w w2 p q l a c := ⟨old_block hb h.res, h.rd.later hb, h.list.later hb, below_of h.below hb⟩
theorem DW.put {w wr : World} {p q : Nat} {l : List Nat} {a : Option Addr} {c : Nat} (h : DW w wr p q l a c) (u : Value) : (wr.setCell ⟨w.heap.size, 0, none⟩ u).cell? ⟨w.heap.size, 0, none⟩ = some u ∧ Below w.heap.size w (wr.setCell ⟨w.heap.size, 0, none⟩ u) ∧ ListAt (wr.setCell ⟨w.heap.size, 0, none⟩ u) a (readAll l).1 :=
  ⟨by rw [cell_of (heap_setCell_same wr _ 0 _ _ u h.res)]; rfl, h.below.setCell (Nat.le_refl _) u, list_put h.list h.res u⟩
theorem DW.reads {w wr : World} {p q : Nat} {l : List Nat} {a : Option Addr} {c : Nat} (h : DW w wr p q l a c) : wr.cell? ⟨w.heap.size, 0, none⟩ = some (.slice none 0 0) ∧ wr.frozen? ⟨w.heap.size, 0, none⟩ = false := ⟨by rw [cell_of h.res]; rfl, frozen_of h.res 0⟩

set_option maxRecDepth 100000 in
set_option maxHeartbeats 8000000 in
theorem decode_any (w : World) (a : Option Addr) (c : Nat) (l : List Nat) (hr : Row w a l) (hz : l.length ≤ 1000000) :
    Calls Try.prog 17 #[.slice a l.length c] w fun e w' => Decoded w (decG l) e w' := by
  have hcost := readAll_cost l hr.1 hz
  have HRE := read_any (w.alloc (.cells #[.slice none 0 0] 24)) a c l (hr.later ((Below.refl _ w).alloc (Nat.le_refl _) _)) (by omega)
  have HRF : Hid (∀ W p q, Rd W p q l 0 0 → Calls Try.prog 40 #[.pointer (some ⟨p, 0, none⟩)] W fun e w' => ∃ a' c', e = .returned (.agg #[.slice a' (readAll l).1.length c']) ∧ Hid (ListAt w' a' (readAll l).1 ∧ Rd w' p q l (readAll l).2.1 (readAll l).2.2 ∧ Off (fun k => k = p) W w')) := fun W p q h => readFiles_any W p q l h hz
  have hN := heap_alloc_new w (.cells #[.slice none 0 0] 24)
  have HDW : Hid (∀ w1 w2 p q a' c' A, w.heap.size + 1 ≤ p → Below (w.alloc (.cells #[.slice none 0 0] 24)).heap.size (w.alloc (.cells #[.slice none 0 0] 24)) w1 → ListAt w2 a' (readAll l).1 ∧ Rd w2 p q l (readAll l).2.1 (readAll l).2.2 ∧ Off (fun k => k = p) w1 w2 → DW w (w2.alloc A) p q l a' c') := fun w1 w2 p q a' c' A hp hb hh => by
    have b1 : Below w.heap.size w w1 := below_of ((Below.refl _ w).alloc (Nat.le_refl _) _) hb
    have b2 : Below w.heap.size w w2 := b1.trans (hh.2.2.below b1.size (fun i e => by omega))
    have hl : (w.alloc (.cells #[.slice none 0 0] 24)).heap.size = w.heap.size + 1 := by simp
    exact DW.later ⟨hh.2.2.at (old_block hb hN) (by omega), hh.2.1, hh.1, b2⟩ ((Below.refl _ w2).alloc (Nat.le_refl _) A)
  have hl1 : (w.alloc (.cells #[.slice none 0 0] 24)).heap.size = w.heap.size + 1 := by simp
  obtain ⟨res, hres⟩ : ∃ res, res = decG l := ⟨_, rfl⟩
  rw [← hres]
  have HRES : Hid (decG l = res) := hres.symm
  unfold decG at HRES
  clear hr hN hres
  go_enter Try.func17, Try.ntmps17
  go_wp2_with (first | (go_at_call 39; refine HRE.mono ?_; rintro e w1 ⟨p, q, rfl, hq1⟩) | (go_at_call 40; refine (HRF.out w1 p q hq1.out.1).mono ?_; rintro e w2 ⟨a', c', rfl, hq2⟩; have hW := HDW.out w1 w2 p q a' c' (.cells #[.slice a' (readAll l).1.length c'] 24) (by have := hq1.out.2.1; omega) hq1.out.2.2.2 hq2.out; obtain ⟨r1, r2⟩ := hW.reads))
  have c5 : (w2.alloc (.cells #[.slice a' (readAll l).1.length c'] 24)).cell? ⟨w2.heap.size, 0, none⟩ = some (.slice a' (readAll l).1.length c') := by rw [cell_of (heap_alloc_new w2 _)]; rfl
  obtain ⟨w3, hw3⟩ : ∃ w3, w3 = w2.alloc (.cells #[.slice a' (readAll l).1.length c'] 24) := ⟨_, rfl⟩
  rw [← hw3] at hW r1 r2 c5 ⊢
  have HW : Hid (DW w w3 p q l a' c') := hW
  have HPU := fun u => (hW.put u).1
  clear hW hw3 hq1 hq2 HDW HRF HRE
  have HER := err_any w3 p q l _ _ HW.out.rd
  have HLF := left_any w3 p q l _ _ HW.out.rd (by omega)
  have HCK : Hid (∀ W, Below w3.heap.size w3 W → Calls Try.prog 26 #[.agg #[.slice a' (readAll l).1.length c']] W fun e w' => e = .returned (.int .i64 (checkI (readAll l).1)) ∧ Below W.heap.size W w') := fun W hW => check_any W a' c' (readAll l).1 (HW.out.list.later hW) hcost
  have HLI : Hid (∀ W, Below w3.heap.size w3 W → ListAt W a' (readAll l).1) := fun W hW => HW.out.list.later hW
  have HPP : Hid (∀ W, Below w3.heap.size w3 W → ∀ u, (W.setCell ⟨w.heap.size, 0, none⟩ u).cell? ⟨w.heap.size, 0, none⟩ = some u ∧ Below w.heap.size w (W.setCell ⟨w.heap.size, 0, none⟩ u) ∧ ListAt (W.setCell ⟨w.heap.size, 0, none⟩ u) a' (readAll l).1) := fun W hW u => (HW.out.later hW).put u
  have HRR : Hid (∀ W, Below w3.heap.size w3 W → W.cell? ⟨w.heap.size, 0, none⟩ = some (.slice none 0 0) ∧ W.frozen? ⟨w.heap.size, 0, none⟩ = false) := fun W hW => (HW.out.later hW).reads
  clear HW hcost
  generalize readAll l = R at *
  obtain ⟨RL, Rat, Rer⟩ := R
  simp only at *
  by_cases he : (Rer != 0) = true
  · have HE : Hid (res = .error Rer) := by
      have := HRES.out
      rw [if_pos he] at this
      exact this.symm
    refine HER.mono ?_
    rintro e w4 ⟨rfl, rfl⟩
    go_wp2
    refine bodyPost_ret (v := .tuple #[.agg #[.slice none 0 0], .int .i64 Rer]) (by simp [results, Try.results17, go_sem, HPU]) rfl (.inr ⟨Rer, HE.out, rfl, (HPP.out _ (Below.refl _ _) _).2.1⟩)
  · obtain rfl := er_zero he
    refine HER.mono ?_
    rintro e w4 ⟨rfl, rfl⟩
    by_cases hd : 0 < l.length - Rat
    · have HE : Hid (res = .error 150) := by
        have := HRES.out
        rw [if_neg he, if_pos (.inl hd)] at this
        exact this.symm
      have hdi : (0 : Int) < ((l.length - Rat : Nat) : Int) := by omega
      generalize l.length - Rat = d at hdi HLF
      clear he hd HRES
      go_wp2_with (go_at_call 42; refine HLF.mono ?_; rintro e w4 ⟨rfl, m, hw4⟩; have hb4 : Below w3.heap.size w3 w4 := (by rw [hw4]; exact below_drewN (Below.refl _ _) m); obtain ⟨x1, x2⟩ := HRR.out w4 hb4; have HPU4 := (fun u => (HPP.out w4 hb4 u).1); clear hw4)
      refine bodyPost_ret (v := .tuple #[.agg #[.slice none 0 0], .int .i64 150]) (by simp [results, Try.results17, go_sem, HPU4]) rfl (.inr ⟨150, HE.out, rfl, (HPP.out _ hb4 _).2.1⟩)
    · have hdi : ((l.length - Rat : Nat) : Int) = 0 := by omega
      rw [hdi] at HLF
      cases hr : rightB RL with
      | false =>
        have HE : Hid (res = .error 150) := by
          have := HRES.out
          rw [if_neg he, if_pos (.inr hr)] at this
          exact this.symm
        have HC : Hid (checkI RL = 150) := check_no hr
        clear he hd HRES hdi hr
        go_wp2_with (first | (go_at_call 42; refine HLF.mono ?_; rintro e w4 ⟨rfl, m, hw4⟩; have hb4 : Below w3.heap.size w3 w4 := (by rw [hw4]; exact below_drewN (Below.refl _ _) m); have y5 := cell_later hb4 c5; clear hw4) | (go_at_call 26; refine (HCK.out w4 hb4).mono ?_; rw [HC.out]; rintro e w5 ⟨rfl, hq5⟩; have hb5 := below_of hb4 hq5; obtain ⟨x1, x2⟩ := HRR.out w5 hb5; have HPU4 := (fun u => (HPP.out w5 hb5 u).1)))
        refine bodyPost_ret (v := .tuple #[.agg #[.slice none 0 0], .int .i64 150]) (by simp [results, Try.results17, go_sem, HPU4]) rfl (.inr ⟨150, HE.out, rfl, (HPP.out _ hb5 _).2.1⟩)
      | true =>
        have HE : Hid (res = .ok RL) := by
          have := HRES.out
          rw [if_neg he, if_neg (by rintro (h | h); exact hd h; rw [hr] at h; cases h)] at this
          exact this.symm
        have HC : Hid (checkI RL = 0) := check_yes hr
        clear he hd HRES hdi hr
        go_wp2_with (first | (go_at_call 42; refine HLF.mono ?_; rintro e w4 ⟨rfl, m, hw4⟩; have hb4 : Below w3.heap.size w3 w4 := (by rw [hw4]; exact below_drewN (Below.refl _ _) m); have y5 := cell_later hb4 c5; clear hw4) | (go_at_call 26; refine (HCK.out w4 hb4).mono ?_; rw [HC.out]; rintro e w5 ⟨rfl, hq5⟩; have hb5 := below_of hb4 hq5; have z5 := cell_later hq5 y5; obtain ⟨x1, x2⟩ := HRR.out w5 hb5; have HPU4 := (fun u => (HPP.out w5 hb5 u).1)))
        refine bodyPost_ret (v := .tuple #[.agg #[.slice a' RL.length c'], .int .i64 0]) (by simp [results, Try.results17, go_sem, HPU4]) rfl (.inl ⟨RL, a', c', HE.out, rfl, (HPP.out _ hb5 _).2.2, (HPP.out _ hb5 _).2.1⟩)
end Go.Proofs.Ytfocejmfmnijpaa
