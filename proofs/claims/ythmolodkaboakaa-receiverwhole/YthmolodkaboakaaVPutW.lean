/- The reference's Put: what its loop keeps. -/
import Derived.Test.YthmolodkaboakaaVRef
import Derived.Test.YthmolodkaboakaaVPutP
import Derived.Test.YthmolodkaboakaaVTake
import Derived.Test.YthmolodkaboakaaR01Both
import Derived.Laws.OwnMore
namespace Go.Proofs.Ythmolodkaboakaa
open Go.RowKit
set_option linter.unusedVariables false
def covC (s : Tk) (x : Sg) (j : Nat) : Bool := cov s.got (j : Int) || ownJ x.off.toNat x.dat j
/-- what Put answers. -/
def rputK (s : Tk) (x : Sg) : Tk × Bool := if difK s x = true then (s, false) else (putG s x, true)
/-- the bytes and the rows that are gathered. -/
structure PutI (w wr : World) (s : Tk) (a : Option Addr) (c : Nat) (g : Option Addr) (d : Nat) (x : Sg) (xa : Option Addr) (xc : Nat) (a2 : Option Addr) (c2 : Nat) (kb kl : Nat) (vb vl : Value) : Prop where
  en : En w wr s a c g d x xa xc a2 c2
  byt : wr.ownsRow (w.heap.size + 3) 5 1 vb s.byt.length (cells (mixB s.byt x.off.toNat x.dat kb))
  lst : wr.ownsRow (w.heap.size + 3) 60 2 vl (runs (covC s x) kl).length (ccells (runs (covC s x) kl))
  sm : ∀ j, j < kb → cov s.got (j : Int) = true → ownJ x.off.toNat x.dat j = true → s.byt.getD j 0 = x.dat.getD (j - x.off.toNat) 0
theorem En.off {w W W' : World} {s : Tk} {a : Option Addr} {c : Nat} {g : Option Addr} {d : Nat} {x : Sg} {xa : Option Addr} {xc : Nat} {a2 : Option Addr} {c2 : Nat} {S : Nat → Prop} (h : En w W s a c g d x xa xc a2 c2) (ho : Off S W W') (hS : ∀ i, S i → w.heap.size + 3 ≤ i) : En w W' s a c g d x xa xc a2 c2 :=
  ⟨h.bel.trans (ho.below h.bel.size (fun i e => by have := hS i e; omega)), ho.at h.one (fun e => by have := hS _ e; omega), ho.at h.two (fun e => by have := hS _ e; omega), ho.at h.res (fun e => by have := hS _ e; omega), Nat.le_trans h.size ho.size⟩
section
variable {w wr : World} {s : Tk} {a : Option Addr} {c : Nat} {g : Option Addr} {d : Nat} {x : Sg} {xa : Option Addr} {xc : Nat} {a2 : Option Addr} {c2 : Nat} {kb kl : Nat} {vb vl : Value}
theorem PutI.later {wx : World} (h : PutI w wr s a c g d x xa xc a2 c2 kb kl vb vl) (hb : Below wr.heap.size wr wx) : PutI w wx s a c g d x xa xc a2 c2 kb kl vb vl :=
  ⟨h.en.later hb, (Off.of_below (S := fun _ => False) hb).owns h.byt (fun _ _ t => t), (Off.of_below (S := fun _ => False) hb).owns h.lst (fun _ _ t => t), h.sm⟩
theorem own_cells {wz : World} {n e1 e2 z1 z2 : Nat} {v1 v2 : Value} {m1 m2 : Nat} {xs ys : List Value} (h1 : wz.ownsRow n e1 z1 v1 m1 xs) (h2 : wz.ownsRow n e2 z2 v2 m2 ys) (ht : e1 ≠ e2) : ∀ k, v1.ownBlock = some k → v2.ownBlock = some k → False := by
  intro k k1 k2
  rcases h1.2 with ⟨rfl, _⟩ | ⟨g1, cp1, cur1, rfl, _, hc1, _⟩
  · cases k1
  · rcases h2.2 with ⟨rfl, _⟩ | ⟨g2, cp2, cur2, rfl, _, hc2, _⟩
    · cases k2
    · cases k1
      cases k2
      rw [hc1] at hc2
      simp only [Option.some.injEq, Obj.cells.injEq] at hc2
      exact ht hc2.2.1
theorem cells_set (l : List Nat) (k n : Nat) : (cells l).set k (.int .u8 (n : Nat)) = cells (l.set k n) := by
  unfold cells
  rw [List.map_set]
theorem pt_skip (h : PutI w wr s a c g d x xa xc a2 c2 kb kl vb vl) (ho : ownJ x.off.toNat x.dat kb = false) : PutI w wr s a c g d x xa xc a2 c2 (kb + 1) kl vb vl := by
  refine ⟨h.en, by rw [mix_not ho]; exact h.byt, h.lst, fun j hj h1 h2 => ?_⟩
  by_cases e : j = kb
  · subst e; rw [ho] at h2; cases h2
  · exact h.sm j (by omega) h1 h2
theorem pt_set {gb cb : Nat} (h : PutI w wr s a c g d x xa xc a2 c2 kb kl (.slice (some ⟨gb, 0, none⟩) s.byt.length cb) vl) (ho : ownJ x.off.toNat x.dat kb = true) (hk : kb < s.byt.length) (hsm : cov s.got (kb : Int) = true → s.byt.getD kb 0 = x.dat.getD (kb - x.off.toNat) 0) :
    PutI w (wr.setCell ⟨gb, kb, none⟩ (.int .u8 ((x.dat.getD (kb - x.off.toNat) 0 : Nat) : Int))) s a c g d x xa xc a2 c2 (kb + 1) kl (.slice (some ⟨gb, 0, none⟩) s.byt.length cb) vl := by
  have hof : Off (fun i => i = gb) wr (wr.setCell ⟨gb, kb, none⟩ (.int .u8 ((x.dat.getD (kb - x.off.toNat) 0 : Nat) : Int))) := (Off.refl (fun i => i = gb) wr).setCell (p := ⟨gb, kb, none⟩) (.inr rfl) _
  have hge := own_ge h.byt gb rfl
  refine ⟨h.en.off hof (fun i e => by have : i = gb := e; omega), ?_, hof.owns h.lst (fun k e t => ?_), fun j hj h1 h2 => ?_⟩
  · rw [mix_own hk ho, ← cells_set]
    exact (World.ownsRow.stored h.byt kb _).1
  · have t' : k = gb := t
    exact own_cells h.byt h.lst (by decide) gb rfl (by rw [← t']; exact e)
  · by_cases e : j = kb
    · subst e; exact hsm h1
    · exact h.sm j (by omega) h1 h2
theorem pt_none (h : PutI w wr s a c g d x xa xc a2 c2 kb kl vb vl) (hc : covC s x kl = false) : PutI w wr s a c g d x xa xc a2 c2 kb (kl + 1) vb vl := by
  have e : runs (covC s x) (kl + 1) = runs (covC s x) kl := by rw [runs, hc]; rfl
  exact ⟨h.en, h.byt, by rw [e]; exact h.lst, h.sm⟩
theorem ccells_set {L : List (Int × Int)} {r : Int × Int} (q : Int) : (ccells (L ++ [r])).set (L.length * 2 + 1) (.int .i64 q) = ccells (L ++ [(r.1, q)]) := by
  rw [ccells_append, ccells_append, List.set_append_right _ _ (by rw [ccells_length]; omega), ccells_length]
  rw [show L.length * 2 + 1 - L.length * 2 = 1 by omega]
  rfl
theorem pt_inc {gl cl : Nat} {L : List (Int × Int)} {r : Int × Int} (h : PutI w wr s a c g d x xa xc a2 c2 kb kl vb (.slice (some ⟨gl, 0, none⟩) (L.length + 1) cl)) (hc : covC s x kl = true) (hL : runs (covC s x) kl = L ++ [r]) (hr : r.1 + r.2 = (kl : Int)) :
    PutI w (wr.setCell ⟨gl, L.length * 2 + 1, none⟩ (.int .i64 (r.2 + 1))) s a c g d x xa xc a2 c2 kb (kl + 1) vb (.slice (some ⟨gl, 0, none⟩) (L.length + 1) cl) := by
  have hof : Off (fun i => i = gl) wr (wr.setCell ⟨gl, L.length * 2 + 1, none⟩ (.int .i64 (r.2 + 1))) := (Off.refl (fun i => i = gl) wr).setCell (p := ⟨gl, L.length * 2 + 1, none⟩) (.inr rfl) _
  have hge := own_ge h.lst gl rfl
  have hl := h.lst
  rw [hL] at hl
  have e : runs (covC s x) (kl + 1) = L ++ [(r.1, r.2 + 1)] := by
    rw [runs, hc, if_pos rfl, hL]
    unfold snoc
    simp [hr]
  refine ⟨h.en.off hof (fun i e => by have : i = gl := e; omega), hof.owns h.byt (fun k e t => ?_), ?_, h.sm⟩
  · have t' : k = gl := t
    exact own_cells h.byt h.lst (by decide) gl (by rw [← t']; exact e) rfl
  · rw [e, ← ccells_set, show (L ++ [(r.1, r.2 + 1)]).length = L.length + 1 by simp]
    rw [show (L ++ [r]).length = L.length + 1 by simp] at hl
    exact (World.ownsRow.stored hl (L.length * 2 + 1) _).1
theorem runs_app {C : Nat → Bool} {k : Nat} (hc : C k = true) (h : ∀ r, (runs C k).getLast? = some r → r.1 + r.2 ≠ (k : Int)) : runs C (k + 1) = runs C k ++ [((k : Int), 1)] := by
  rw [runs, hc, if_pos rfl]
  unfold snoc
  cases e : (runs C k).getLast? with
  | none => rw [List.getLast?_eq_none_iff.1 e]; rfl
  | some r => simp only [if_neg (h r e)]
theorem pt_app {wx wy : World} {vl' : Value} (h : PutI w wr s a c g d x xa xc a2 c2 kb kl vb vl) (hc : covC s x kl = true) (hl : ∀ r, (runs (covC s x) kl).getLast? = some r → r.1 + r.2 ≠ (kl : Int)) (hb : Below wr.heap.size wr wx) (hf : Off (fun k => vl.ownBlock = some k) wx wy) (ho : wy.ownsRow (w.heap.size + 3) 60 2 vl' (runs (covC s x) kl ++ [((kl : Int), 1)]).length (ccells (runs (covC s x) kl ++ [((kl : Int), 1)]))) : PutI w wy s a c g d x xa xc a2 c2 kb (kl + 1) vb vl' := by
  have h2 := h.later hb
  refine ⟨h2.en.off hf (fun i e => own_ge h.lst i e), hf.owns h2.byt (fun k e t => own_cells h2.byt h2.lst (by decide) k e t), by rw [runs_app hc hl]; exact ho, h2.sm⟩
end
end Go.Proofs.Ythmolodkaboakaa
