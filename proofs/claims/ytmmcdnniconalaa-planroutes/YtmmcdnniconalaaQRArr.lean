/- The walk of the reference's Arrivals. -/
import Derived.Test.YtmmcdnniconalaaQEarlA
namespace Go.Proofs.Ytmmcdnniconalaa
open Go.RowKit
set_option linter.unusedVariables false
/-- what lies in memory. -/
structure AI (w : World) (nn : Int) (ad : Option Addr) (m k : Nat) (A : List Int) (W : World) : Prop where
  p : W.heap[w.heap.size]? = some (.cells #[.int .i64 nn, .slice ad m k] 24 (0, 0))
  r : W.heap[w.heap.size + 1]? = some (.cells (wc (List.replicate 7 0)) 51 (0, 0))
  b : W.heap[w.heap.size + 1 + 1]? = some (.cells (wc A) 51 (0, 0))
  bel : Below w.heap.size w W
  len : A.length = 7
theorem AI.later {w W W' : World} {nn : Int} {ad : Option Addr} {m k : Nat} {A : List Int} (h : AI w nn ad m k A W) (hb : Below W.heap.size W W') : AI w nn ad m k A W' := ⟨old_block hb h.p, old_block hb h.r, old_block hb h.b, below_of h.bel hb, h.len⟩
theorem AI.set {w W : World} {nn : Int} {ad : Option Addr} {m k : Nat} {A : List Int} (h : AI w nn ad m k A W) {u : Nat} (hu : u < 7) (x : Int) : AI w nn ad m k (A.set u x) (W.setCell ⟨w.heap.size + 1 + 1, u, none⟩ (.int .i64 x)) := by
  have ho : Off (fun k => k = w.heap.size + 1 + 1) W (W.setCell ⟨w.heap.size + 1 + 1, u, none⟩ (.int .i64 x)) := (Off.refl (fun k => k = w.heap.size + 1 + 1) W).setCell (p := ⟨w.heap.size + 1 + 1, u, none⟩) (.inr rfl) _
  exact ⟨ho.at h.p (by omega), ho.at h.r (by omega), by rw [set_heap h.b, wc_set hu h.len], h.bel.setCell (p := ⟨w.heap.size + 1 + 1, u, none⟩) (by show _ ≤ w.heap.size + 1 + 1; omega) _, by simp [h.len]⟩
theorem AI.cell {w W : World} {nn : Int} {ad : Option Addr} {m k : Nat} {A : List Int} (h : AI w nn ad m k A W) {v : Nat} (hv : v < 7) : W.cell? ⟨w.heap.size + 1 + 1, v, none⟩ = some (.int .i64 (gt A v)) ∧ W.frozen? ⟨w.heap.size + 1 + 1, v, none⟩ = false := ⟨by rw [cell_of h.b, wc_at hv], frozen_of h.b v⟩
theorem AI.pc {w W : World} {nn : Int} {ad : Option Addr} {m k : Nat} {A : List Int} (h : AI w nn ad m k A W) : W.cell? ⟨w.heap.size, 0, none⟩ = some (.int .i64 nn) ∧ W.cell? ⟨w.heap.size, 1, none⟩ = some (.slice ad m k) := ⟨by rw [cell_of h.p]; rfl, by rw [cell_of h.p]; rfl⟩
theorem AI.eq {w W : World} {nn : Int} {ad : Option Addr} {m k : Nat} {A B : List Int} (h : AI w nn ad m k A W) (e : A = B) : AI w nn ad m k B W := e ▸ h
theorem far_all {A : List Int} (hl : A.length = 7) (h : ∀ v, v < 7 → gt A v = far) : A = List.replicate 7 far := by
  match A, hl with
  | [a, b, c, d, e, f, g], _ =>
    have h0 := h 0 (by omega); have h1 := h 1 (by omega); have h2 := h 2 (by omega); have h3 := h 3 (by omega); have h4 := h 4 (by omega); have h5 := h 5 (by omega); have h6 := h 6 (by omega)
    simp only [gt, List.getD_cons_zero, List.getD_cons_succ] at h0 h1 h2 h3 h4 h5 h6
    subst h0 h1 h2 h3 h4 h5 h6
    rfl
/-- one contact, in the reference's way, three ways. -/
theorem rlx_skip {need : Int} {A : List Int} {c : Ct} {l : Int} (h : c.en ≤ gt A c.frm.toNat ∨ l < need) : rlx need A c l = A := by unfold rlx; rw [if_pos h]
theorem rlx_no {need : Int} {A : List Int} {c : Ct} {l : Int} (h : ¬ (c.en ≤ gt A c.frm.toNat ∨ l < need)) (h2 : ¬ max (gt A c.frm.toNat) c.st + c.dl + 1 < gt A c.to.toNat) : rlx need A c l = A := by unfold rlx; rw [if_neg h, if_neg h2]
theorem rlx_yes {need : Int} {A : List Int} {c : Ct} {l : Int} (h : ¬ (c.en ≤ gt A c.frm.toNat ∨ l < need)) (h2 : max (gt A c.frm.toNat) c.st + c.dl + 1 < gt A c.to.toNat) : rlx need A c l = A.set c.to.toNat (max (gt A c.frm.toNat) c.st + c.dl + 1) := by unfold rlx; rw [if_neg h, if_pos h2]
theorem rndK_at {need : Int} {X : List Ct} {L A : List Int} {j : Nat} {c : Ct} {l : Int} (hc : X[j]? = some c) (hl : L[j]? = some l) : rndK need X L A (j + 1) = rlx need (rndK need X L A j) c l := by rw [rndK, hc, hl]
end Go.Proofs.Ytmmcdnniconalaa
