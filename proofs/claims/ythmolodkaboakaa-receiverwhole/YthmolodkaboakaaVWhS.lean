/- The law's pieces: how they lie, and what puts one more. -/
import Derived.Test.YthmolodkaboakaaVWhP
import Derived.Test.YthmolodkaboakaaVSay
import Derived.Deep.AppendSrc
import Derived.Deep.AppendLies
import Derived.Deep.RegionHeld3
namespace Go.Proofs.Ythmolodkaboakaa
open Go.RowKit
set_option linter.unusedVariables false
/-- a piece: where, how long, its Serial. -/
abbrev PT := Nat × Nat × Nat
/-- a piece's cells: its data lie in the block. -/
def pcell (N bb bo c : Nat) (p : PT) : List Value := [.int .i64 1, .int .i64 3, .int .u32 9, .int .u32 (p.2.2 : Nat), .int .u32 0, .int .i64 (p.1 : Int), .int .i64 (N : Int), .int .i64 0, .int .i64 0, .int .i64 0, .bool (decide (0 < p.2.2)), .slice (some ⟨bb, bo + p.1, none⟩) p.2.1 (c - p.1), .slice none 0 0]
def pcells (N bb bo c : Nat) (P : List PT) : List Value := P.flatMap (pcell N bb bo c)
theorem pcell_len (N bb bo c : Nat) (p : PT) : (pcell N bb bo c p).length = 13 := rfl
theorem pcells_len (N bb bo c : Nat) : ∀ P : List PT, (pcells N bb bo c P).length = P.length * 13
  | [] => rfl
  | p :: r => by
    have := pcells_len N bb bo c r
    unfold pcells at this ⊢
    rw [List.flatMap_cons, List.length_append, this, pcell_len, List.length_cons]
    omega
theorem pcells_app (N bb bo c : Nat) (P Q : List PT) : pcells N bb bo c (P ++ Q) = pcells N bb bo c P ++ pcells N bb bo c Q := by
  unfold pcells
  rw [List.flatMap_append]
theorem pcell_one (N bb bo c : Nat) (p : PT) : ∀ u ∈ pcells N bb bo c [p], u.oneCell' = true := by
  intro u hu
  simp only [pcells, pcell, List.flatMap_cons, List.flatMap_nil, List.append_nil, List.mem_cons, List.not_mem_nil, or_false] at hu
  rcases hu with rfl | rfl | rfl | rfl | rfl | rfl | rfl | rfl | rfl | rfl | rfl | rfl | rfl <;> rfl
/-- the box of the pieces that are gathered. -/
def Gs (w : World) (ob n0 N bb bo c : Nat) (v : Value) (P : List PT) : Prop := w.heap[ob]? = some (.cells #[v] 31 (0, 0)) ∧ w.ownsRow n0 28 13 v P.length (pcells N bb bo c P)
/-- append of one segment, which lies in a block of its own, onto those that the call owns. -/
theorem wpList_append_seg {ops : Array Oper} {rest : List Oper} {o : Oper} {a : Act} {w : World} {Q : Exit → Act → World → Prop} (hgd : o.guard = none) (s x : Operand)
    (ho : o.op = .call { callee := .builtin .append, args := #[s, x], argTypes := #[31, 31] }) (N bb bo c n0 : Nat) (v : Value) (P : List PT) (p : PT) (hs : a.eval s = v) (hown : w.ownsRow n0 28 13 v P.length (pcells N bb bo c P))
    (b : Nat) (hx : a.eval x = .slice (some ⟨b, 0, none⟩) 1 1) (hb : w.rangeAt b 0 (pcell N bb bo c p)) (hz : P.length ≤ 1000) (hbase : n0 ≤ w.heap.size)
    (h : ∀ g' c' w', w'.ownsRow n0 28 13 (.slice (some ⟨g', 0, none⟩) (P.length + 1) c') (P ++ [p]).length (pcells N bb bo c (P ++ [p])) → Off (fun k => v.ownBlock = some k) w w' → wpList Try.prog ops Q rest (a.put o.dst (.slice (some ⟨g', 0, none⟩) (P.length + 1) c')) w') : wpList Try.prog ops Q (o :: rest) a w := by
  obtain ⟨i0, hi, hz0, hz1, hz2⟩ := info_parts Try.info28
  have hcells : ∀ j u, (pcells N bb bo c [p])[j]? = some u → w.cell? ((⟨b, 0, none⟩ : Addr).add j) = some u := by
    intro j u hu
    have e : pcells N bb bo c [p] = pcell N bb bo c p := by simp [pcells]
    rw [e] at hu
    have := hb j u hu
    rw [Go.WideShapes.add_plain]
    simpa using this
  refine wpList_append_lies _ hgd s x 31 ho n0 28 i0 _ 13 128 Try.underlying31 hi hz0 hz1 hz2 rfl (by decide) v P.length (pcells N bb bo c P) hs hown ⟨b, 0, none⟩ 1 1 (pcells N bb bo c [p]) hx rfl hcells (pcell_one _ _ _ _ _) (by decide) (by unfold maxLen; omega) (by omega) hbase w.heap.size rfl ?_
  intro g2 cap2 w' h1 h2 h3 _
  obtain ⟨_, _, hv2, hle2, _⟩ := own_form h1
  cases hv2
  exact h g2 cap2 w' (by rw [pcells_app, List.length_append]; exact h1) ((Off.refl (fun k => v.ownBlock = some k) w).grown h2 (fun k e => .inr e))
theorem gs_ext {w W w' : World} {ob n0 N bb bo c : Nat} {v v' : Value} {P M : List PT} (h : Gs w ob n0 N bb bo c v P) (hn : ob < n0) (hnw : n0 ≤ w.heap.size) (hb : Below w.heap.size w W) (hf : Off (fun k => v.ownBlock = some k) W w') (ho2 : w'.ownsRow n0 28 13 v' M.length (pcells N bb bo c M)) :
    w'.cell? ⟨ob, 0, none⟩ = some v ∧ w'.frozen? ⟨ob, 0, none⟩ = false ∧ Gs (w'.setCell ⟨ob, 0, none⟩ v') ob n0 N bb bo c v' M ∧ Off (fun i => i = ob ∨ v.ownBlock = some i) w (w'.setCell ⟨ob, 0, none⟩ v') := by
  have hv : ∀ k, v.ownBlock = some k → n0 ≤ k := own_ge h.2
  have h2 : w'.heap[ob]? = some (.cells #[v] 31 (0, 0)) := hf.at (old_block hb h.1) (fun e => by have := hv ob e; omega)
  have hs : Off (fun i => i = ob) w' (w'.setCell ⟨ob, 0, none⟩ v') := (Off.refl (fun i => i = ob) w').setCell (p := ⟨ob, 0, none⟩) (.inr rfl) _
  refine ⟨by rw [cell_of h2]; rfl, frozen_of h2 0, ⟨?_, hs.owns ho2 (fun k e t => by have := own_ge ho2 k e; have : k = ob := t; omega)⟩, ?_⟩
  · rw [heap_setCell_same _ _ _ _ _ _ h2]
    rfl
  · exact (((Off.of_below (S := fun i => i = ob ∨ v.ownBlock = some i) hb).trans hf (fun i _ t => .inr t)).trans hs (fun i _ t => .inl t))
theorem wx_get {W : World} {q : Nat} {v0 v1 v2 v3 v4 v5 v6 v7 v8 v9 v10 v11 v12 : Value} {t : TypeId} (h : W.heap[q]? = some (.cells #[v0, v1, v2, v3, v4, v5, v6, v7, v8, v9, v10, v11, v12] t (0, 0))) :
    W.cell? ⟨q, 0, none⟩ = some v0 ∧ W.cell? ⟨q, 1, none⟩ = some v1 ∧ W.cell? ⟨q, 2, none⟩ = some v2 ∧ W.cell? ⟨q, 3, none⟩ = some v3 ∧ W.cell? ⟨q, 4, none⟩ = some v4 ∧ W.cell? ⟨q, 5, none⟩ = some v5 ∧ W.cell? ⟨q, 6, none⟩ = some v6 ∧ W.cell? ⟨q, 7, none⟩ = some v7 ∧ W.cell? ⟨q, 8, none⟩ = some v8 ∧ W.cell? ⟨q, 9, none⟩ = some v9 ∧ W.cell? ⟨q, 10, none⟩ = some v10 ∧ W.cell? ⟨q, 11, none⟩ = some v11 ∧ W.cell? ⟨q, 12, none⟩ = some v12 := by
  refine ⟨?_, ?_, ?_, ?_, ?_, ?_, ?_, ?_, ?_, ?_, ?_, ?_, ?_⟩
  all_goals (rw [cell_of h]; rfl)
theorem px_range {W : World} {q N bb bo c : Nat} {p : PT} {t : TypeId} (h : W.heap[q]? = some (.cells (pcell N bb bo c p).toArray t (0, 0))) : W.rangeAt q 0 (pcell N bb bo c p) := by
  intro j v hv
  rw [Nat.zero_add, cell_of h]
  rw [← List.getElem?_toArray] at hv
  exact hv
set_option maxRecDepth 20000 in
set_option maxHeartbeats 4000000 in
theorem put_0 (N bb bo c o n ob n0 kb : Nat) (v : Value) (P : List PT) (w : World) (hk : w.heap[kb]? = some (.cells #[.slice (some ⟨bb, bo, none⟩) N c] 23 (0, 0))) (h : Gs w ob n0 N bb bo c v P) (hn : ob < n0) (hnw : n0 ≤ w.heap.size) (hN : N ≤ 512) (hc : N ≤ c) (hcm : c ≤ maxLen) (h1 : 1 ≤ n) (hf : o + n ≤ N) (hP : P.length ≤ 500) :
    Calls Try.prog 48 #[.int .i64 (o : Int), .int .i64 (n : Int), .bool false, .pointer (some ⟨kb, 0, none⟩), .pointer (some ⟨ob, 0, none⟩)] w fun e w' => e = .returned (.tuple #[]) ∧ Hid (∃ v', Gs w' ob n0 N bb bo c v' (P ++ [(o, n, 0)]) ∧ Off (fun i => i = ob ∨ v.ownBlock = some i) w w') := by
  have HG : Hid (Gs w ob n0 N bb bo c v P) := h
  have HK : Hid (w.heap[kb]? = some (.cells #[.slice (some ⟨bb, bo, none⟩) N c] 23 (0, 0))) := hk
  have kc0 : w.cell? ⟨kb, 0, none⟩ = some (.slice (some ⟨bb, bo, none⟩) N c) := by rw [cell_of hk]; rfl
  have a1 : (0 : Int) ≤ (o : Int) := by omega
  have a2 : (o : Int) ≤ (o : Int) + (n : Int) := by omega
  have a3 : (o : Int) + (n : Int) ≤ (c : Int) := by omega
  have a4 : ((o : Int) + (n : Int)).toNat = o + n := by omega
  have a5 : ¬ c = o := by omega
  have a6 : o + n ≤ c := by omega
  have a7 : o + n - o = n := by omega
  have a8 : o ≤ o + n := by omega
  have a9 : IntKind.i64.wrap ((o : Int) + (n : Int)) = (o : Int) + (n : Int) := by rw [IntKind.wrap_i64]; omega
  have a10 : (o : Int) + (n : Int) ≤ 512 := by omega
  have a11 : (o : Int) ≤ 512 := by omega
  clear hk h
  go_enter Try.func48, Try.ntmps48
  go_wp2_with fail
  have k1 : ∀ X, (w.alloc X).cell? ⟨kb, 0, none⟩ = some (.slice (some ⟨bb, bo, none⟩) N c) := fun X => cell_later ((Below.refl _ _).alloc (Nat.le_refl _) X) kc0
  go_region_held3 (fun W' => W'.cell? ⟨kb, 0, none⟩ = some (.slice (some ⟨bb, bo, none⟩) N c)) (first | exact kc0 | exact k1 _) (fail)
  have HXB : Hid ((w.alloc (.cells #[.int .i64 1, .int .i64 3, .int .u32 9, .int .u32 0, .int .u32 0, .int .i64 (o : Int), .int .i64 (N : Int), .int .i64 0, .int .i64 0, .int .i64 0, .bool false, .slice (some ⟨bb, bo + o, none⟩) n (c - o), .slice none 0 0] 28)).drew.heap[w.heap.size]? = some (.cells #[.int .i64 1, .int .i64 3, .int .u32 9, .int .u32 0, .int .u32 0, .int .i64 (o : Int), .int .i64 (N : Int), .int .i64 0, .int .i64 0, .int .i64 0, .bool false, .slice (some ⟨bb, bo + o, none⟩) n (c - o), .slice none 0 0] 28 (0, 0))) := old_block (Below.refl _ _).drew (heap_alloc_new w _)
  have HBX : Hid (Below w.heap.size w (w.alloc (.cells #[.int .i64 1, .int .i64 3, .int .u32 9, .int .u32 0, .int .u32 0, .int .i64 (o : Int), .int .i64 (N : Int), .int .i64 0, .int .i64 0, .int .i64 0, .bool false, .slice (some ⟨bb, bo + o, none⟩) n (c - o), .slice none 0 0] 28)).drew) := ((Below.refl _ w).alloc (Nat.le_refl _) _).drew
  have HGX : Hid (Gs (w.alloc (.cells #[.int .i64 1, .int .i64 3, .int .u32 9, .int .u32 0, .int .u32 0, .int .i64 (o : Int), .int .i64 (N : Int), .int .i64 0, .int .i64 0, .int .i64 0, .bool false, .slice (some ⟨bb, bo + o, none⟩) n (c - o), .slice none 0 0] 28)).drew ob n0 N bb bo c v P) := ⟨old_block HBX.out HG.out.1, (Off.of_below (S := fun _ => False) HBX.out).owns HG.out.2 (fun _ _ t => t)⟩
  generalize (w.alloc (.cells #[.int .i64 1, .int .i64 3, .int .u32 9, .int .u32 0, .int .u32 0, .int .i64 (o : Int), .int .i64 (N : Int), .int .i64 0, .int .i64 0, .int .i64 0, .bool false, .slice (some ⟨bb, bo + o, none⟩) n (c - o), .slice none 0 0] 28)).drew = wx at HXB HBX HGX ⊢
  clear k1 kc0 a1 a2 a3 a4 a5 a6 a7 a8 a9 a10 a11
  have hx0 := wx_get HXB.out
  obtain ⟨x0, x1, x2, x3, x4, x5, x6, x7, x8, x9, x10, x11, x12⟩ := hx0
  have u0 : wx.cell? ⟨ob, 0, none⟩ = some v := by rw [cell_of HGX.out.1]; rfl
  have u1 : ∀ X, (wx.alloc X).cell? ⟨ob, 0, none⟩ = some v := fun X => by rw [cell_of (old_block ((Below.refl _ _).alloc (Nat.le_refl _) X) HGX.out.1)]; rfl
  have HOW : Hid (∀ W, Below wx.heap.size wx W → W.ownsRow n0 28 13 v P.length (pcells N bb bo c P)) := fun W hb => (Off.of_below (S := fun _ => False) hb).owns HGX.out.2 (fun _ _ t => t)
  have HNW : Hid (n0 ≤ wx.heap.size) := Nat.le_trans hnw HBX.out.size
  have HNP : Hid (P.length ≤ 1000) := by show _ ≤ _; omega
  go_wp2_with (at_builtin; refine wpList_append_seg rfl _ _ rfl N bb bo c n0 v P (o, n, 0) (by rfl) (HOW.out _ ((Below.refl _ _).alloc (Nat.le_refl _) _)) wx.heap.size (by rfl) (px_range (heap_alloc_new wx _)) HNP.out (by have := HNW.out; simp; omega) ?_; intro gn cn wn hon hfn; obtain ⟨m1, m2, m3, m4⟩ := gs_ext (M := P ++ [(o, n, 0)]) HGX.out hn HNW.out ((Below.refl _ _).alloc (Nat.le_refl _) _) hfn hon; have HM : Hid (Hid _ ∧ Hid _) := ⟨m3, m4⟩; clear m3 m4 hon hfn)
  have HF : Hid (∃ v', Gs (wn.setCell ⟨ob, 0, none⟩ (.slice (some ⟨gn, 0, none⟩) (P.length + 1) cn)) ob n0 N bb bo c v' (P ++ [(o, n, 0)]) ∧ Off (fun i => i = ob ∨ v.ownBlock = some i) w (wn.setCell ⟨ob, 0, none⟩ (.slice (some ⟨gn, 0, none⟩) (P.length + 1) cn))) := ⟨_, HM.out.1.out, ((Off.of_below (S := fun i => i = ob ∨ v.ownBlock = some i) HBX.out)).trans HM.out.2.out (fun i _ t => t)⟩
  go_end0
  exact ⟨rfl, HF⟩
set_option maxRecDepth 20000 in
set_option maxHeartbeats 4000000 in
theorem put_1 (N bb bo c o n ob n0 kb : Nat) (v : Value) (P : List PT) (w : World) (hk : w.heap[kb]? = some (.cells #[.slice (some ⟨bb, bo, none⟩) N c] 23 (0, 0))) (h : Gs w ob n0 N bb bo c v P) (hn : ob < n0) (hnw : n0 ≤ w.heap.size) (hN : N ≤ 512) (hc : N ≤ c) (hcm : c ≤ maxLen) (h1 : 1 ≤ n) (hf : o + n ≤ N) (hP : P.length ≤ 500) :
    Calls Try.prog 48 #[.int .i64 (o : Int), .int .i64 (n : Int), .bool true, .pointer (some ⟨kb, 0, none⟩), .pointer (some ⟨ob, 0, none⟩)] w fun e w' => e = .returned (.tuple #[]) ∧ Hid (∃ v', Gs w' ob n0 N bb bo c v' (P ++ [(o, n, P.length + 1)]) ∧ Off (fun i => i = ob ∨ v.ownBlock = some i) w w') := by
  have HG : Hid (Gs w ob n0 N bb bo c v P) := h
  have HK : Hid (w.heap[kb]? = some (.cells #[.slice (some ⟨bb, bo, none⟩) N c] 23 (0, 0))) := hk
  have kc0 : w.cell? ⟨kb, 0, none⟩ = some (.slice (some ⟨bb, bo, none⟩) N c) := by rw [cell_of hk]; rfl
  have a1 : (0 : Int) ≤ (o : Int) := by omega
  have a2 : (o : Int) ≤ (o : Int) + (n : Int) := by omega
  have a3 : (o : Int) + (n : Int) ≤ (c : Int) := by omega
  have a4 : ((o : Int) + (n : Int)).toNat = o + n := by omega
  have a5 : ¬ c = o := by omega
  have a6 : o + n ≤ c := by omega
  have a7 : o + n - o = n := by omega
  have a8 : o ≤ o + n := by omega
  have a9 : IntKind.i64.wrap ((o : Int) + (n : Int)) = (o : Int) + (n : Int) := by rw [IntKind.wrap_i64]; omega
  have a10 : (o : Int) + (n : Int) ≤ 512 := by omega
  have a11 : (o : Int) ≤ 512 := by omega
  clear hk h
  obtain ⟨M, hM⟩ : ∃ M : Nat, P.length + 1 = M := ⟨_, rfl⟩
  rw [hM]
  have b1 : IntKind.i64.wrap ((P.length : Int) + 1) = (M : Int) := by rw [IntKind.wrap_i64]; omega
  have b2 : IntKind.u32.wrap ((M : Int)) = (M : Int) := by rw [IntKind.wrap_u32]; omega
  have HMP : Hid (P.length + 1 = M ∧ 0 < M) := ⟨hM, by omega⟩
  obtain ⟨vp, vq, hv⟩ := own_form HG.out.2
  obtain ⟨hv, _, _⟩ := hv
  subst hv
  have v1 : ∀ Y, (w.alloc Y).cell? ⟨ob, 0, none⟩ = some (.slice vp P.length vq) := fun Y => by rw [cell_of (old_block ((Below.refl _ _).alloc (Nat.le_refl _) Y) HG.out.1)]; rfl
  clear hM
  go_enter Try.func48, Try.ntmps48
  go_wp2_with fail
  have k1 : ∀ X, (w.alloc X).cell? ⟨kb, 0, none⟩ = some (.slice (some ⟨bb, bo, none⟩) N c) := fun X => cell_later ((Below.refl _ _).alloc (Nat.le_refl _) X) kc0
  go_region_held3 (fun W' => W'.cell? ⟨kb, 0, none⟩ = some (.slice (some ⟨bb, bo, none⟩) N c)) (first | exact kc0 | exact k1 _) (fail)
  go_wp2_with fail
  have v2 : ∀ Y, (w.alloc Y).drew.cell? ⟨ob, 0, none⟩ = some (.slice vp P.length vq) := v1
  have v3 : ∀ Y, (w.alloc Y).drew.drew.cell? ⟨ob, 0, none⟩ = some (.slice vp P.length vq) := v1
  go_region_held3 (fun W' => W'.cell? ⟨ob, 0, none⟩ = some (.slice vp P.length vq)) (first | exact v3 _ | exact v2 _ | exact v1 _) (fail)
  have HPC : Hid ((pcell N bb bo c (o, n, M)).toArray = #[.int .i64 1, .int .i64 3, .int .u32 9, .int .u32 (M : Int), .int .u32 0, .int .i64 (o : Int), .int .i64 (N : Int), .int .i64 0, .int .i64 0, .int .i64 0, .bool true, .slice (some ⟨bb, bo + o, none⟩) n (c - o), .slice none 0 0]) := by show _ = _; unfold pcell; rw [decide_eq_true HMP.out.2]
  have HXB : Hid ((w.alloc (.cells #[.int .i64 1, .int .i64 3, .int .u32 9, .int .u32 (M : Int), .int .u32 0, .int .i64 (o : Int), .int .i64 (N : Int), .int .i64 0, .int .i64 0, .int .i64 0, .bool true, .slice (some ⟨bb, bo + o, none⟩) n (c - o), .slice none 0 0] 28)).drew.drew.heap[w.heap.size]? = some (.cells #[.int .i64 1, .int .i64 3, .int .u32 9, .int .u32 (M : Int), .int .u32 0, .int .i64 (o : Int), .int .i64 (N : Int), .int .i64 0, .int .i64 0, .int .i64 0, .bool true, .slice (some ⟨bb, bo + o, none⟩) n (c - o), .slice none 0 0] 28 (0, 0))) := old_block (Below.refl _ _).drew.drew (heap_alloc_new w _)
  have HBX : Hid (Below w.heap.size w (w.alloc (.cells #[.int .i64 1, .int .i64 3, .int .u32 9, .int .u32 (M : Int), .int .u32 0, .int .i64 (o : Int), .int .i64 (N : Int), .int .i64 0, .int .i64 0, .int .i64 0, .bool true, .slice (some ⟨bb, bo + o, none⟩) n (c - o), .slice none 0 0] 28)).drew.drew) := ((Below.refl _ w).alloc (Nat.le_refl _) _).drew.drew
  have HGX : Hid (Gs (w.alloc (.cells #[.int .i64 1, .int .i64 3, .int .u32 9, .int .u32 (M : Int), .int .u32 0, .int .i64 (o : Int), .int .i64 (N : Int), .int .i64 0, .int .i64 0, .int .i64 0, .bool true, .slice (some ⟨bb, bo + o, none⟩) n (c - o), .slice none 0 0] 28)).drew.drew ob n0 N bb bo c (.slice vp P.length vq) P) := ⟨old_block HBX.out HG.out.1, (Off.of_below (S := fun _ => False) HBX.out).owns HG.out.2 (fun _ _ t => t)⟩
  generalize (w.alloc (.cells #[.int .i64 1, .int .i64 3, .int .u32 9, .int .u32 (M : Int), .int .u32 0, .int .i64 (o : Int), .int .i64 (N : Int), .int .i64 0, .int .i64 0, .int .i64 0, .bool true, .slice (some ⟨bb, bo + o, none⟩) n (c - o), .slice none 0 0] 28)).drew.drew = wx at HXB HBX HGX ⊢
  clear k1 kc0 a1 a2 a3 a4 a5 a6 a7 a8 a9 a10 a11 v1 v2 v3 b1 b2
  have hx0 := wx_get HXB.out
  obtain ⟨x0, x1, x2, x3, x4, x5, x6, x7, x8, x9, x10, x11, x12⟩ := hx0
  have u0 : wx.cell? ⟨ob, 0, none⟩ = some (.slice vp P.length vq) := by rw [cell_of HGX.out.1]; rfl
  have u1 : ∀ X, (wx.alloc X).cell? ⟨ob, 0, none⟩ = some (.slice vp P.length vq) := fun X => by rw [cell_of (old_block ((Below.refl _ _).alloc (Nat.le_refl _) X) HGX.out.1)]; rfl
  have HOW : Hid (∀ W, Below wx.heap.size wx W → W.ownsRow n0 28 13 (.slice vp P.length vq) P.length (pcells N bb bo c P)) := fun W hb => (Off.of_below (S := fun _ => False) hb).owns HGX.out.2 (fun _ _ t => t)
  have HNW : Hid (n0 ≤ wx.heap.size) := Nat.le_trans hnw HBX.out.size
  have HNP : Hid (P.length ≤ 1000) := by show _ ≤ _; omega
  go_wp2_with (at_builtin; refine wpList_append_seg rfl _ _ rfl N bb bo c n0 (.slice vp P.length vq) P (o, n, M) (by rfl) (HOW.out _ ((Below.refl _ _).alloc (Nat.le_refl _) _)) wx.heap.size (by rfl) (px_range (by rw [HPC.out]; exact heap_alloc_new wx _)) HNP.out (by have := HNW.out; simp; omega) ?_; intro gn cn wn hon hfn; obtain ⟨m1, m2, m3, m4⟩ := gs_ext (M := P ++ [(o, n, M)]) HGX.out hn HNW.out ((Below.refl _ _).alloc (Nat.le_refl _) _) hfn hon; have HM : Hid (Hid _ ∧ Hid _) := ⟨m3, m4⟩; clear m3 m4 hon hfn)
  have HF : Hid (∃ v', Gs (wn.setCell ⟨ob, 0, none⟩ (.slice (some ⟨gn, 0, none⟩) (P.length + 1) cn)) ob n0 N bb bo c v' (P ++ [(o, n, M)]) ∧ Off (fun i => i = ob ∨ (Value.slice vp P.length vq).ownBlock = some i) w (wn.setCell ⟨ob, 0, none⟩ (.slice (some ⟨gn, 0, none⟩) (P.length + 1) cn))) := ⟨_, HM.out.1.out, ((Off.of_below (S := fun i => i = ob ∨ (Value.slice vp P.length vq).ownBlock = some i) HBX.out)).trans HM.out.2.out (fun i _ t => t)⟩
  go_end0
  exact ⟨rfl, HF⟩
end Go.Proofs.Ythmolodkaboakaa
