/- The walk of the laws' few; a row of operations in memory. -/
import Derived.Test.YtopfpdkknfjgoaaLWakes
import Derived.Test.YtopfpdkknfjgoaaLOpen
namespace Go.Proofs.Ytopfpdkknfjgoaa
open Go.RowKit
set_option linter.unusedVariables false

def ocells : List OX → List Value
  | [] => []
  | o :: r => .int .i64 o.knd :: .int .i64 o.f.x.frm :: .int .i64 o.f.x.to :: .int .i64 o.f.x.at_ :: .slice o.f.a o.f.x.bytes.length o.f.c :: .int .i64 o.n :: .int .i64 o.bit :: .int .i64 o.now :: ocells r
theorem ocells_length : ∀ X : List OX, (ocells X).length = X.length * 8
  | [] => rfl
  | x :: r => by simp [ocells, ocells_length r]; omega
theorem ocells_append : ∀ X Y : List OX, ocells (X ++ Y) = ocells X ++ ocells Y
  | [], _ => rfl
  | x :: r, Y => by simp [ocells, ocells_append r Y]
theorem ocells_one : ∀ (X : List OX), ∀ u ∈ ocells X, u.oneCell' = true
  | [] => by simp [ocells]
  | x :: r => by
    intro u hu
    simp only [ocells, List.mem_cons] at hu
    rcases hu with rfl | rfl | rfl | rfl | rfl | rfl | rfl | rfl | hu
    iterate 8 · rfl
    exact ocells_one r u hu
theorem ocells_at : ∀ (X : List OX) (i : Nat) (h : i < X.length) (j : Nat) (hj : j < 8), (ocells X)[i * 8 + j]? = (ocells [X[i]])[j]?
  | [], _, h, _, _ => by simp at h
  | x :: r, 0, _, j, hj => by
    rw [Nat.zero_mul, Nat.zero_add]
    show (ocells ([x] ++ r))[j]? = (ocells [x])[j]?
    rw [ocells_append, List.getElem?_append_left (by rw [ocells_length]; simpa using hj)]
  | x :: r, i + 1, h, j, hj => by
    have := ocells_at r i (by simpa using h) j hj
    show (ocells ([x] ++ r))[(i + 1) * 8 + j]? = _
    rw [ocells_append, List.getElem?_append_right (by rw [ocells_length]; simp; omega), ocells_length]
    simp only [List.length_cons, List.length_nil]
    rw [show (i + 1) * 8 + j - (0 + 1) * 8 = i * 8 + j by omega, this]
    rfl
/-- operations lie in memory from a on. -/
structure OxAt (w : World) (a : Option Addr) (l : List OX) : Prop where
  ok : ∀ o ∈ l, CameO w o
  here : 0 < l.length → ∃ b o, a = some ⟨b, o, none⟩ ∧ ∀ j u, (ocells l)[j]? = some u → w.cell? ⟨b, o + j, none⟩ = some u
theorem CameF.later {w w' : World} {y : FX} (h : CameF w y) (hb : Below w.heap.size w w') : CameF w' y := ⟨h.row.later hb, h.le, h.cap, h.len, h.i1, h.i2, h.i3⟩
theorem CameO.later {w w' : World} {o : OX} (h : CameO w o) (hb : Below w.heap.size w w') : CameO w' o := ⟨h.f.later hb, h.k, h.n, h.bit, h.now⟩
theorem OxAt.later {w w' : World} {a : Option Addr} {l : List OX} (h : OxAt w a l) (hb : Below w.heap.size w w') : OxAt w' a l :=
  ⟨fun o ho => (h.ok o ho).later hb, fun h0 => by obtain ⟨b, o, rfl, hc⟩ := h.here h0; exact ⟨b, o, rfl, fun j u hu => cell_later hb (hc j u hu)⟩⟩
/-- the eight cells of an operation. -/
structure Oc (w : World) (b o : Nat) (x : OX) : Prop where
  c0 : w.cell? ⟨b, o, none⟩ = some (.int .i64 x.knd)
  c1 : w.cell? ⟨b, o + 1, none⟩ = some (.int .i64 x.f.x.frm)
  c2 : w.cell? ⟨b, o + 2, none⟩ = some (.int .i64 x.f.x.to)
  c3 : w.cell? ⟨b, o + 3, none⟩ = some (.int .i64 x.f.x.at_)
  c4 : w.cell? ⟨b, o + 4, none⟩ = some (.slice x.f.a x.f.x.bytes.length x.f.c)
  c5 : w.cell? ⟨b, o + 5, none⟩ = some (.int .i64 x.n)
  c6 : w.cell? ⟨b, o + 6, none⟩ = some (.int .i64 x.bit)
  c7 : w.cell? ⟨b, o + 7, none⟩ = some (.int .i64 x.now)
theorem oc_of {w : World} {b o : Nat} {l : List OX} (hc : ∀ j u, (ocells l)[j]? = some u → w.cell? ⟨b, o + j, none⟩ = some u) (i : Nat) (hi : i < l.length) : Oc w b (o + i * 8) l[i] := by
  have h : ∀ j (hj : j < 8) u, (ocells [l[i]])[j]? = some u → w.cell? ⟨b, o + i * 8 + j, none⟩ = some u := fun j hj u hu => by
    rw [Nat.add_assoc]; exact hc _ u ((ocells_at l i hi j hj).trans hu)
  exact ⟨h 0 (by omega) _ rfl, h 1 (by omega) _ rfl, h 2 (by omega) _ rfl, h 3 (by omega) _ rfl, h 4 (by omega) _ rfl, h 5 (by omega) _ rfl, h 6 (by omega) _ rfl, h 7 (by omega) _ rfl⟩
theorem Oc.later {w w' : World} {b o : Nat} {x : OX} (h : Oc w b o x) (hb : Below w.heap.size w w') : Oc w' b o x := ⟨cell_later hb h.c0, cell_later hb h.c1, cell_later hb h.c2, cell_later hb h.c3, cell_later hb h.c4, cell_later hb h.c5, cell_later hb h.c6, cell_later hb h.c7⟩
theorem Try.info34 : (Try.prog.info? 34).map (fun i => (i.zero, i.size, i.bytes)) = some (some (.agg #[.int .i64 0, .int .i64 0, .int .i64 0, .int .i64 0, .slice none 0 0, .int .i64 0, .int .i64 0, .int .i64 0]), 8, 80) := by kernel_rfl
/-- an operation with at most 401 bytes. -/
def fewO (o : OX) : OX := ⟨o.knd, ⟨⟨o.f.x.frm, o.f.x.to, o.f.x.at_, o.f.x.bytes.take 401⟩, o.f.a, o.f.c⟩, o.n, o.bit, o.now⟩
def fews (l : List OX) (k : Nat) : List OX := (l.take k).map fewO
theorem fews_len {l : List OX} {k : Nat} (h : k ≤ l.length) : (fews l k).length = k := by simp [fews]; omega
theorem fews_succ {l : List OX} {k : Nat} (h : k < l.length) : fews l (k + 1) = fews l k ++ [fewO l[k]] := by
  unfold fews
  rw [List.take_succ_eq_append_getElem h, List.map_append]; rfl
theorem few_came {w : World} {o : OX} (h : CameO w o) : CameO w (fewO o) :=
  ⟨⟨row_take h.f.row 401, by show (o.f.x.bytes.take 401).length ≤ o.f.c; rw [List.length_take]; have := h.f.le; omega, h.f.cap, by show (o.f.x.bytes.take 401).length ≤ _; rw [List.length_take]; omega, h.f.i1, h.f.i2, h.f.i3⟩, h.k, h.n, h.bit, h.now⟩
/-- operations of a row that the call owns. -/
theorem ox_own {w : World} {base n : Nat} {X : List OX} {v : Value} (h : w.ownsRow base 34 8 v n (ocells X)) (hX : ∀ o ∈ X, CameO w o) : ∃ a c, v = .slice a X.length c ∧ n = X.length ∧ X.length ≤ c ∧ OxAt w a X := by
  obtain ⟨a, c, rfl, h1, h2⟩ := own_form h
  have hn : n = X.length := by have := h.1; rw [ocells_length] at this; omega
  subst hn
  refine ⟨a, c, rfl, rfl, h1, hX, fun h0 => ?_⟩
  obtain ⟨g, rfl⟩ : ∃ g, a = some ⟨g, 0, none⟩ := by
    rcases h.2 with ⟨_, e0⟩ | ⟨g, cap, cur, hv, hb, _⟩
    · omega
    · cases hv; exact ⟨g, rfl⟩
  refine ⟨g, 0, rfl, fun j u hu => ?_⟩
  have hj := (List.getElem?_eq_some_iff.1 hu).1
  rw [ocells_length] at hj
  rw [Nat.zero_add, h.cellAt j (by omega), hu]
theorem ox_src {w : World} (o : OX) (h : Nat) (hh : w.heap.size = h) : ∀ j u, (ocells [o])[j]? = some u → (w.alloc (.cells (ocell o).toArray 34)).cell? ((⟨h, 0, none⟩ : Addr).add j) = some u := by
  intro j u hu
  subst hh
  rw [Go.WideShapes.add_plain, Nat.zero_add, cell_of (heap_alloc_new w _)]
  rw [List.getElem?_toArray]
  exact hu

theorem few_id {x : OX} (h : (x.f.x.bytes.length : Int) ≤ 401) : fewO x = x := by
  obtain ⟨k, ⟨⟨f, t, a, l⟩, ad, c⟩, n, b, w⟩ := x
  have h' : l.length ≤ 401 := by have : (l.length : Int) ≤ 401 := h; omega
  unfold fewO
  show (⟨k, ⟨⟨f, t, a, l.take 401⟩, ad, c⟩, n, b, w⟩ : OX) = _
  rw [List.take_of_length_le h']
theorem oxb_src {w : World} (x : OX) (hx : ¬ (x.f.x.bytes.length : Int) ≤ 401) (h : Nat) (hh : w.heap.size = h) : ∀ j u, (ocells [fewO x])[j]? = some u → (w.alloc (.cells #[.int .i64 x.knd, .int .i64 x.f.x.frm, .int .i64 x.f.x.to, .int .i64 x.f.x.at_, .slice x.f.a 401 x.f.c, .int .i64 x.n, .int .i64 x.bit, .int .i64 x.now] 34)).cell? ((⟨h, 0, none⟩ : Addr).add j) = some u := by
  have hl : (x.f.x.bytes.take 401).length = 401 := by rw [List.length_take]; omega
  have := ox_src (w := w) (fewO x) h hh
  unfold ocell fewO at this
  simp only [hl] at this
  exact this
theorem few_step {w wr w' : World} {l : List OX} {k g cap : Nat} {v : Value} {A B : Obj} {x : OX} (HK : wr.ownsRow w.heap.size 34 8 v k (ocells (fews l k)) ∧ Below w.heap.size w wr) (hs : fews l (k + 1) = fews l k ++ [fewO x]) (ho : w'.ownsRow w.heap.size 34 8 (.slice (some ⟨g, 0, none⟩) (k + 1) cap) (k + 1) (ocells (fews l k) ++ ocells [fewO x])) (hg : ((wr.alloc A).alloc B).grownBy w' v.ownBlock) :
    Hid (w'.ownsRow w.heap.size 34 8 (.slice (some ⟨g, 0, none⟩) (k + 1) cap) (k + 1) (ocells (fews l (k + 1))) ∧ Below w.heap.size w w') := by
  refine ⟨by rw [hs, ocells_append]; exact ho, ?_⟩
  have hb : Below w.heap.size w ((wr.alloc A).alloc B) := below_of (below_of HK.2 ((Below.refl _ wr).alloc (Nat.le_refl _) _)) ((Below.refl _ _).alloc (Nat.le_refl _) _)
  exact hb.grown hg hb.size (own_ge HK.1)

set_option maxRecDepth 20000 in
set_option maxHeartbeats 8000000 in
theorem few_any (w : World) (a : Option Addr) (c : Nat) (l : List OX) (h : OxAt w a l) (hl : l.length ≤ 140737488351232) :
    Calls Try.prog 11 #[.slice a l.length c] w fun e w' => ∃ v, e = .returned v ∧ Hid (w'.ownsRow w.heap.size 34 8 v (min l.length 80) (ocells (fews l (min l.length 80))) ∧ Below w.heap.size w w') := by
  obtain ⟨i0, hi, hz0, hz1, hz2⟩ := info_parts Try.info34
  have HI : Hid _ := hi
  have HH : Hid (OxAt w a l) := h
  clear hi h
  go_enter Try.func11, Try.ntmps11
  go_wp2
  go_loopw [3, 8] (fun v i wr => ∃ k : Nat, k ≤ l.length ∧ k ≤ 80 ∧ i = .int .i64 k ∧ Hid (wr.ownsRow w.heap.size 34 8 v k (ocells (fews l k)) ∧ Below w.heap.size w wr)) (fun _ i _ => l.length - (intOf i).toNat)
  case atStart => exact ⟨0, Nat.zero_le _, Nat.zero_le _, rfl, World.ownsRow_nil w _ _ _, Below.refl _ _⟩
  case round =>
    obtain ⟨k, hk, hk8, rfl, HK⟩ := hrel
    by_cases hlt : k < l.length
    · obtain ⟨b, o, rfl, hc⟩ := HH.out.here (by omega)
      have hO := (oc_of hc k hlt).later HK.out.2
      have hCo := HH.out.ok _ (List.getElem_mem hlt)
      have HC : Hid (CameO w l[k]) := hCo
      have HS : Hid (fews l (k + 1) = fews l k ++ [fewO l[k]]) := fews_succ hlt
      clear hc hCo
      obtain ⟨x, hx⟩ : ∃ x, l[k] = x := ⟨_, rfl⟩
      rw [hx] at hO HC HS
      obtain ⟨c0, c1, c2, c3, c4, c5, c6, c7⟩ := hO
      by_cases h8 : k = 80
      · subst h8
        go_wp2
        go_ret
        rw [show min l.length 80 = 80 by omega]
        exact ⟨_, rfl, HK.out.1.alloc _, below_of HK.out.2 ((Below.refl _ wr).alloc (Nat.le_refl _) _)⟩
      · have h8' : ((k : Int) == 80) = false := by simp; omega
        have hle : x.f.x.bytes.length ≤ x.f.c := HC.out.f.le
        have hcp : x.f.c ≤ maxLen := HC.out.f.cap
        unfold maxLen at hcp
        by_cases h4 : (x.f.x.bytes.length : Int) ≤ 401
        · have HID : Hid (fewO x = x) := few_id h4
          go_wp2_with (at_builtin; go_must (refine wpList_append_lies _ rfl (.tmp 26) (.tmp 28) 22 rfl w.heap.size 34 i0 _ 8 80 Try.underlying22 HI.out hz0 hz1 hz2 rfl (by decide) _ k (ocells (fews l k)) rfl ((HK.out.1.alloc _).alloc _) ⟨wr.heap.size + 1, 0, none⟩ 1 1 (ocells [x]) rfl rfl (ox_src x _ (by simp)) (ocells_one _) (by decide) (by unfold maxLen; omega) (by omega) (by have := HK.out.2.size; simp; omega) _ rfl ?_); intro g cap w' ho hg hat hltg; have HN := few_step HK.out HS.out (by rw [HID.out]; exact ho) hg; clear ho hg hat)
          go_roundw
          case rel => exact ⟨k + 1, by omega, by omega, by go_num, HN⟩
          case measure => simp [intOf]; omega
        · have h5 : (401 : Int) < x.f.x.bytes.length := by omega
          have h6 : (401 : Int) ≤ (x.f.c : Int) := by omega
          have H4 : Hid (¬ (x.f.x.bytes.length : Int) ≤ 401) := h4
          go_wp2_with (at_builtin; go_must (refine wpList_append_lies _ rfl (.tmp 26) (.tmp 28) 22 rfl w.heap.size 34 i0 _ 8 80 Try.underlying22 HI.out hz0 hz1 hz2 rfl (by decide) _ k (ocells (fews l k)) rfl ((HK.out.1.alloc _).alloc _) ⟨wr.heap.size + 1, 0, none⟩ 1 1 (ocells [fewO x]) rfl rfl (oxb_src x H4.out _ (by simp)) (ocells_one _) (by decide) (by unfold maxLen; omega) (by omega) (by have := HK.out.2.size; simp; omega) _ rfl ?_); intro g cap w' ho hg hat hltg; have HN := few_step HK.out HS.out ho hg; clear ho hg hat)
          go_roundw
          case rel => exact ⟨k + 1, by omega, by omega, by go_num, HN⟩
          case measure => simp [intOf]; omega
    · go_wp2
      go_ret
      rw [show min l.length 80 = k by omega]
      exact ⟨_, rfl, HK⟩
end Go.Proofs.Ytopfpdkknfjgoaa
