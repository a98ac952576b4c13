/- Files that are being turned: how they lie in memory; the walk of files.turn. -/
import Derived.Test.YtfocejmfmnijpaaFGet
namespace Go.Proofs.Ytfocejmfmnijpaa
open Go.RowKit

/-- The blocks of files that are being turned. -/
def own (p : Nat) (v : Value) (k : Nat) : Prop := k = p ∨ v.ownBlock = some k
/-- Files that are being turned: their struct in block p, their list in the slice v. -/
structure Turn (w : World) (p : Nat) (v : Value) (X : List FX) : Prop where
  here : w.heap[p]? = some (.cells #[v] 59 (0, 0))
  list : w.ownsRow 0 53 2 v X.length (fcells X)
  pv : v.ownBlock ≠ some p
  files : ∀ x ∈ X, Good w (own p v) x
  few : X.length ≤ 1000000

theorem Turn.off {w w' : World} {p : Nat} {v : Value} {X : List FX} {S : Nat → Prop} (h : Turn w p v X) (ho : Off S w w') (hS : ∀ k, own p v k → ¬ S k) (hX : ∀ x ∈ X, 0 < x.bytes.length → ∀ b, x.ad = some b → ¬ S b.block) : Turn w' p v X :=
  { here := ho.at h.here (hS p (.inl rfl))
    list := ho.owns h.list (fun g hg => hS g (.inr hg))
    pv := h.pv
    files := fun x hx => ⟨(h.files x hx).1, (h.files x hx).2.1, (h.files x hx).2.2.1, (h.files x hx).2.2.2.1.off ho (hX x hx), (h.files x hx).2.2.2.2⟩
    few := h.few }
theorem Turn.later {w w' : World} {p : Nat} {v : Value} {X : List FX} (h : Turn w p v X) (hb : Below w.heap.size w w') : Turn w' p v X :=
  h.off (S := fun _ => False) (Off.of_below hb) (fun _ _ => id) (fun _ _ _ _ _ => id)
theorem Turn.plt {w : World} {p : Nat} {v : Value} {X : List FX} (h : Turn w p v X) : p < w.heap.size := (Array.getElem?_eq_some_iff.1 h.here).1
theorem Turn.vlt {w : World} {p : Nat} {v : Value} {X : List FX} (h : Turn w p v X) : ∀ k, v.ownBlock = some k → k < w.heap.size := fun k hk => (h.list.lt k hk).2
theorem Turn.lt {w : World} {p : Nat} {v : Value} {X : List FX} (h : Turn w p v X) : ∀ k, own p v k → k < w.heap.size := fun k hk => hk.elim (fun e => e ▸ h.plt) (h.vlt k)
theorem Turn.cell {w : World} {p : Nat} {v : Value} {X : List FX} (h : Turn w p v X) : w.cell? ⟨p, 0, none⟩ = some v := by rw [cell_of h.here]; rfl
theorem Turn.frozen {w : World} {p : Nat} {v : Value} {X : List FX} (h : Turn w p v X) : w.frozen? ⟨p, 0, none⟩ = false := frozen_of h.here 0

theorem Turn.form {w : World} {p : Nat} {v : Value} {X : List FX} (h : Turn w p v X) : ∃ a c, v = .slice a X.length c ∧ X.length ≤ c ∧ c ≤ maxLen := own_form h.list
theorem Turn.listAt {w : World} {p n c : Nat} {a : Option Addr} {X : List FX} (h : Turn w p (.slice a n c) X) : ListAt w a (X.map FX.fil) ∧ n = X.length := own_list h.list h.files (by have := h.few; omega)
theorem Turn.at {w : World} {p n c : Nat} {a : Option Addr} {X : List FX} (h : Turn w p (.slice a n c) X) (h0 : 0 < X.length) : ∃ g, a = some ⟨g, 0, none⟩ := by
  rcases h.list.2 with ⟨_, e0⟩ | ⟨g, cap, cur, hv, _⟩
  · omega
  · cases hv; exact ⟨g, rfl⟩
theorem Turn.name {w : World} {p g n c : Nat} {X : List FX} (h : Turn w p (.slice (some ⟨g, 0, none⟩) n c) X) (i : Nat) (hi : i < X.length) : w.cell? ⟨g, i * 2, none⟩ = some (.string X[i].name) := by
  obtain rfl := h.listAt.2
  rw [h.list.cellAt (i * 2) (by omega), fcells_name X i hi]
theorem Turn.val {w : World} {p g n c : Nat} {X : List FX} (h : Turn w p (.slice (some ⟨g, 0, none⟩) n c) X) (i : Nat) (hi : i < X.length) : w.cell? ⟨g, i * 2 + 1, none⟩ = some (.slice X[i].ad X[i].bytes.length X[i].cap) := by
  obtain rfl := h.listAt.2
  rw [h.list.cellAt (i * 2 + 1) (by omega), fcells_val X i hi]; rfl
theorem Turn.gfrozen {w : World} {p g n c : Nat} {X : List FX} (h : Turn w p (.slice (some ⟨g, 0, none⟩) n c) X) (j : Nat) : w.frozen? ⟨g, j, none⟩ = false := by
  obtain rfl := h.listAt.2
  exact h.list.frozenAt j

/-- Bytes are stored into a file. -/
theorem Turn.store {w : World} {p g n c : Nat} {X : List FX} (h : Turn w p (.slice (some ⟨g, 0, none⟩) n c) X) (i : Nat) (hi : i < X.length) (y : FX) (hy : y.name = X[i].name) (hg : Good w (own p (.slice (some ⟨g, 0, none⟩) n c)) y) :
    Turn (w.setCell ⟨g, i * 2 + 1, none⟩ (.slice y.ad y.bytes.length y.cap)) p (.slice (some ⟨g, 0, none⟩) n c) (X.set i y) ∧ Off (own p (.slice (some ⟨g, 0, none⟩) n c)) w (w.setCell ⟨g, i * 2 + 1, none⟩ (.slice y.ad y.bytes.length y.cap)) := by
  obtain rfl := h.listAt.2
  have hoff : Off (fun k => k = g) w (w.setCell ⟨g, i * 2 + 1, none⟩ (.slice y.ad y.bytes.length y.cap)) := (Off.refl (fun k => k = g) w).setCell (p := ⟨g, i * 2 + 1, none⟩) (.inr rfl) _
  have hog : ∀ k, k = g → own p (.slice (some ⟨g, 0, none⟩) X.length c) k := fun k hk => .inr (by rw [hk]; rfl)
  have hs := (h.list.stored (i * 2 + 1) y.val).1
  rw [fcells_set X i hi y hy] at hs
  refine ⟨⟨hoff.at h.here (fun e => h.pv (by rw [e]; rfl)), by rw [List.length_set]; exact hs, h.pv, fun x hx => ?_, by rw [List.length_set]; exact h.few⟩, hoff.mono fun k _ hk => hog k hk⟩
  rcases List.mem_or_eq_of_mem_set hx with hx | rfl
  · exact (h.files x hx).off hoff hog
  · exact hg.off hoff hog

theorem good_fresh {w0 w : World} {S : Nat → Prop} {n : ByteArray} {a : Option Addr} {c : Nat} {l : List Nat} (h : Fresh w0 w a c l) (hn : n.size ≤ 140737488351232) (hS : ∀ k, S k → k < w0.heap.size) : Good w S ⟨n, a, c, l⟩ :=
  ⟨hn, h.le, h.cap, h.row, fun _ b hb s => by have h1 := hS _ s; have h2 := h.new b hb; omega⟩

theorem fil_set {X : List FX} {i : Nat} (hi : i < X.length) {y : FX} (hy : y.fil = X[i].fil) : (X.set i y).map FX.fil = X.map FX.fil := by
  rw [List.map_set, hy, ← List.getElem_map FX.fil (h := by simpa using hi), List.set_getElem_self]

theorem cell_other {w : World} {p q : Addr} {u v : Value} (h : w.cell? q = some v) (hne : q.block ≠ p.block) : (w.setCell p u).cell? q = some v := by
  unfold World.cell? at h ⊢
  rw [Below.heap_setCell _ _ _ _ hne]
  exact h
theorem turn_made {w w1 : World} {v : Value} {X : List FX} (h : w1.ownsRow w.heap.size 53 2 v X.length (fcells X)) (hb : Below w.heap.size w w1) (hX : ∀ x ∈ X, Good w (fun _ => False) x) (hn : X.length ≤ 1000000) :
    Turn (w1.alloc (.cells #[v] 59)) w1.heap.size v X := by
  have hb2 : Below w.heap.size w (w1.alloc (.cells #[v] 59)) := hb.alloc hb.size _
  refine ⟨heap_alloc_new w1 _, own_base (h.alloc _) (Nat.zero_le _), ?_, fun x hx => ?_, hn⟩
  · intro e
    have := (h.lt _ e).2
    omega
  · obtain ⟨g1, g2, g3, g4, _⟩ := hX x hx
    refine ⟨g1, g2, g3, g4.later hb2, fun h0 b hb0 hs => ?_⟩
    have hlt := g4.lt h0 b hb0
    rcases hs with hs | hs
    · have := hb.size; omega
    · have := (h.lt _ hs).1; omega
theorem turn_frame {w w1 : World} {v : Value} {X : List FX} (h : w1.ownsRow w.heap.size 53 2 v X.length (fcells X)) (hb : Below w.heap.size w w1) : ∀ k, own w1.heap.size v k → w.heap.size ≤ k := by
  rintro k (rfl | hk)
  · exact hb.size
  · exact (h.lt k hk).1

set_option maxHeartbeats 2000000 in
theorem turn_any (w : World) (a : Option Addr) (c : Nat) (L : List Fil) (h : ListAt w a L) (hb : ∀ x ∈ L, x.bytes.length ≤ 4096) (hn : L.length ≤ 64) :
    Calls Try.prog 27 #[.agg #[.slice a L.length c]] w fun e w' => ∃ p v X, e = .returned (.pointer (some ⟨p, 0, none⟩)) ∧ Hid (Turn w' p v X ∧ X.map FX.fil = L ∧ Below w.heap.size w w' ∧ ∀ k, own p v k → w.heap.size ≤ k) := by
  obtain ⟨X0, e0, hX0, hc0⟩ := h.rows
  have hlen : X0.length = L.length := by rw [← e0]; simp
  have HX0 : Hid (∀ x ∈ X0, Good w (fun _ => False) x) := hX0
  have HE0 : Hid (X0.map FX.fil = L) := e0
  have HC0 : Hid (0 < X0.length → ∃ b o, a = some ⟨b, o, none⟩ ∧ ∀ j u, (fcells X0)[j]? = some u → w.cell? ⟨b, o + j, none⟩ = some u) := by show _ → _; rw [hlen]; exact hc0
  have HB0 : Hid (∀ x ∈ L, x.bytes.length ≤ 4096) := hb
  rw [← hlen]
  rw [← hlen] at hn
  clear hX0 e0 hc0 hb h hlen
  go_enter Try.func27, Try.ntmps27
  go_wp2_with (go_at_call 56; refine (sclone_any _ a c X0 (by omega) (fun h0 => by obtain ⟨b, o, e, hc⟩ := HC0.out h0; exact ⟨b, o, e, fun j u hu => cell_later ((Below.refl _ w).alloc (Nat.le_refl _) _) (hc j u hu)⟩)).mono ?_; rintro e w1 ⟨v, rfl, hq⟩; obtain ⟨av, cv, rfl, hv1, hv2⟩ := own_form hq.out.1)
  have hbz : Below (w.alloc (.cells #[.slice a X0.length c] 24)).heap.size (w.alloc (.cells #[.slice a X0.length c] 24)) w1 := hq.out.2
  have HG : Hid (∀ x ∈ X0, Good (w.alloc (.cells #[.slice a X0.length c] 24)) (fun _ => False) x) := fun x hx => (HX0.out x hx).off (T := fun _ => False) (Off.of_below ((Below.refl _ w).alloc (Nat.le_refl _) _)) (fun _ => id)
  have HT : Hid (Turn (w1.alloc (.cells #[.slice av X0.length cv] 59)) w1.heap.size (.slice av X0.length cv) X0) := turn_made hq.out.1 hbz HG.out (by omega)
  have HF : Hid (∀ k, own w1.heap.size (.slice av X0.length cv) k → w.heap.size ≤ k) := fun k hk => by
    have := turn_frame hq.out.1 hbz k hk
    simp at this
    omega
  have HB : Hid (Below w.heap.size w (w1.alloc (.cells #[.slice av X0.length cv] 59))) := by
    have h1 : Below w.heap.size w w1 := ((Below.refl _ w).alloc (Nat.le_refl _) _).trans (hbz.mono (by simp))
    exact h1.alloc h1.size _
  clear hq hbz HG
  go_loopw [18] (fun i wr => ∃ (k : Nat) (X : List FX), k ≤ X0.length ∧ i = .int .i64 k ∧ Hid (Turn wr w1.heap.size (.slice av X0.length cv) X ∧ X.map FX.fil = L ∧ X.length = X0.length ∧ Below w.heap.size w wr)) (fun i _ => X0.length - (intOf i).toNat)
  case atStart => exact ⟨0, X0, Nat.zero_le _, rfl, HT.out, HE0.out, rfl, HB.out⟩
  case round =>
    obtain ⟨k, X, hk, rfl, hr⟩ := hrel
    clear HT HB
    by_cases hkl : k < X0.length
    · have hkx : k < X.length := by rw [hr.out.2.2.1]; exact hkl
      obtain ⟨g, rfl⟩ := hr.out.1.at (by omega)
      have c1 := hr.out.1.name k hkx
      have c2 := hr.out.1.val k hkx
      have c3 := hr.out.1.cell
      have f1 := hr.out.1.gfrozen (k * 2 + 1)
      have hgood := hr.out.1.files _ (List.getElem_mem hkx)
      obtain ⟨y, hy⟩ : ∃ y, y = X[k] := ⟨_, rfl⟩
      rw [← hy] at c1 c2 hgood
      have HY : Hid (y = X[k]) := hy
      have hyb : y.bytes.length ≤ 4096 := by
        have : y.fil ∈ L := by rw [← hr.out.2.1, hy]; exact List.mem_map_of_mem (List.getElem_mem hkx)
        exact HB0.out _ this
      have HR : Hid (Row ((wr.alloc (.cells #[.string y.name, .slice y.ad y.bytes.length y.cap] 53)).drew) y.ad y.bytes) := hgood.2.2.2.1.later (((Below.refl _ wr).alloc (Nat.le_refl _) _).drew)
      have hplt := hr.out.1.plt
      have hglt := hr.out.1.vlt g rfl
      have hi1 : (k : Int) < (X0.length : Int) := by omega
      have n1 : w1.heap.size ≠ g := fun e => hr.out.1.pv (by rw [e]; rfl)
      have n2 : wr.heap.size ≠ g := by omega
      clear hy hgood
      go_wp2
      have d1 : (wr.alloc (.cells #[.string y.name, .slice y.ad y.bytes.length y.cap] 53)).drew.cell? ⟨w1.heap.size, 0, none⟩ = some (.slice (some ⟨g, 0, none⟩) X0.length cv) := cell_later (((Below.refl _ wr).alloc (Nat.le_refl _) _).drew) c3
      have d2 : (wr.alloc (.cells #[.string y.name, .slice y.ad y.bytes.length y.cap] 53)).drew.cell? ⟨wr.heap.size, 1, none⟩ = some (.slice y.ad y.bytes.length y.cap) := by simp
      have d3 : (wr.alloc (.cells #[.string y.name, .slice y.ad y.bytes.length y.cap] 53)).drew.cell? ⟨g, k * 2 + 1, none⟩ = some (.slice y.ad y.bytes.length y.cap) := cell_later (((Below.refl _ wr).alloc (Nat.le_refl _) _).drew) c2
      have d4 : (wr.alloc (.cells #[.string y.name, .slice y.ad y.bytes.length y.cap] 53)).drew.frozen? ⟨g, k * 2 + 1, none⟩ = false := by rw [(((Below.refl _ wr).alloc (Nat.le_refl _) _).drew).frozen (p := ⟨g, k * 2 + 1, none⟩) hglt]; exact f1
      have hz4 : g < (wr.alloc (.cells #[.string y.name, .slice y.ad y.bytes.length y.cap] 53)).drew.heap.size := by simp; omega
      go_region_held3 (fun w' => w'.cell? ⟨w1.heap.size, 0, none⟩ = some (.slice (some ⟨g, 0, none⟩) X0.length cv) ∧ w'.cell? ⟨wr.heap.size, 1, none⟩ = some (.slice y.ad y.bytes.length y.cap)) (first | (exact ⟨d1, d2⟩) | assumption | (exact ⟨cell_later hq.out.2 d1, cell_later hq.out.2 d2⟩) | (exact ⟨cell_other (cell_later hq.out.2 d1) n1, cell_other (cell_later hq.out.2 d2) n2⟩)) (first | (go_at_call 52; refine (bclone_any _ _ _ y.bytes HR.out (by omega)).mono ?_; rintro e w3 ⟨a3, c4, rfl, hq⟩; have e3 := cell_later hq.out.2 d3; have e4 : w3.frozen? ⟨g, k * 2 + 1, none⟩ = false := (hq.out.2.frozen (p := ⟨g, k * 2 + 1, none⟩) hz4).trans d4))
      have HQ : Hid (Fresh (wr.alloc (.cells #[.string y.name, .slice y.ad y.bytes.length y.cap] 53)).drew w3 a3 c4 y.bytes ∧ Below (wr.alloc (.cells #[.string y.name, .slice y.ad y.bytes.length y.cap] 53)).drew.heap.size (wr.alloc (.cells #[.string y.name, .slice y.ad y.bytes.length y.cap] 53)).drew w3) := hq.out
      clear hq d1 d2 d3 d4 e3 e4 c1 c2 c3
      go_wp2
      go_roundw
      case rel =>
        have hb3 : Below wr.heap.size wr w3 := (((Below.refl _ wr).alloc (Nat.le_refl _) _).drew).trans (HQ.out.2.mono (by simp))
        have hT := hr.out.1.later hb3
        have hgd : Good w3 (own w1.heap.size (.slice (some ⟨g, 0, none⟩) X0.length cv)) ⟨y.name, a3, c4, y.bytes⟩ := good_fresh HQ.out.1 (by rw [HY.out]; exact (hr.out.1.files _ (List.getElem_mem hkx)).1) (fun k hk => by have := hr.out.1.lt k hk; simp; omega)
        obtain ⟨t1, t2⟩ := hT.store k hkx ⟨y.name, a3, c4, y.bytes⟩ (by rw [HY.out]) hgd
        exact ⟨k + 1, X.set k ⟨y.name, a3, c4, y.bytes⟩, by omega, by go_num, t1, by rw [fil_set hkx (by rw [HY.out]; rfl)]; exact hr.out.2.1, by rw [List.length_set]; exact hr.out.2.2.1, (hr.out.2.2.2.trans (hb3.mono hr.out.2.2.2.size)).trans (t2.below (Nat.le_trans hr.out.2.2.2.size hb3.size) HF.out)⟩
      case measure => simp [intOf]; omega
    · go_wp2
      go_ret
      exact ⟨w1.heap.size, _, X, rfl, hr.out.1, hr.out.2.1, hr.out.2.2.2, HF.out⟩
end Go.Proofs.Ytfocejmfmnijpaa
