/- The walk of the law LinkApart: the operations. -/
import Derived.Test.YtopfpdkknfjgoaaLApTail
import Derived.Test.YtopfpdkknfjgoaaLTurns
namespace Go.Proofs.Ytopfpdkknfjgoaa
open Go.RowKit Go.Shelf
set_option linter.unusedVariables false
/-- what stands between two operations: k are done. -/
structure ApK (w W : World) (p q : Int) (lb mb lb' mb' k n : Nat) (L M : List Fl) (a : Option Addr) (X : List OX) : Prop where
  s : ApS w W p q lb mb lb' mb' n L M a X
  hn : n ≤ 2 * k
  hL : L.length ≤ k
  hM : M.length ≤ k
  eq : L.filter (pf p q) = M.filter (pf p q)
  all : ∀ x ∈ M, pf p q x = true
theorem ap_start {w w1 w5 : World} {p q : Int} {a : Option Addr} {X : List OX} (h1 : Below (w.alloc (.cells #[.int .i64 p, .int .i64 q] 55)).heap.size (w.alloc (.cells #[.int .i64 p, .int .i64 q] 55)) w1) :
    Below w.heap.size w ((((w1.alloc (.map #[] 0)).alloc (.cells #[.map (some w1.heap.size)] 64)).alloc (.map #[] 0)).alloc (.cells #[.map (some (w1.heap.size + 1 + 1))] 64)) ∧
    (OxAt w5 a X → Below ((((w1.alloc (.map #[] 0)).alloc (.cells #[.map (some w1.heap.size)] 64)).alloc (.map #[] 0)).alloc (.cells #[.map (some (w1.heap.size + 1 + 1))] 64)).heap.size ((((w1.alloc (.map #[] 0)).alloc (.cells #[.map (some w1.heap.size)] 64)).alloc (.map #[] 0)).alloc (.cells #[.map (some (w1.heap.size + 1 + 1))] 64)) w5 →
      ApK w w5 p q (w1.heap.size + 1) w1.heap.size (w1.heap.size + 1 + 1 + 1) (w1.heap.size + 1 + 1) 0 0 [] [] a X) := by
  obtain ⟨W2, hW2⟩ : ∃ W2, W2 = (w1.alloc (.map #[] 0)).alloc (.cells #[.map (some w1.heap.size)] 64) := ⟨_, rfl⟩
  have s2 : W2.heap.size = w1.heap.size + 1 + 1 := by rw [hW2]; simp
  rw [← hW2]
  obtain ⟨W4, hW4⟩ : ∃ W4, W4 = (W2.alloc (.map #[] 0)).alloc (.cells #[.map (some W2.heap.size)] 64) := ⟨_, rfl⟩
  have l2 : Lk No W2 (w1.heap.size + 1) w1.heap.size 0 [] := by rw [hW2]; exact lk_new w1 No no_lt
  have l4 : Lk No W4 (W2.heap.size + 1) W2.heap.size 0 [] := by rw [hW4]; exact lk_new W2 No no_lt
  have b12 : Below w1.heap.size w1 W2 := by rw [hW2]; exact ((Below.refl _ w1).alloc (Nat.le_refl _) _).alloc (by simp) _
  have b24 : Below W2.heap.size W2 W4 := by rw [hW4]; exact ((Below.refl _ W2).alloc (Nat.le_refl _) _).alloc (by simp) _
  rw [← s2, ← hW4]
  have bw1 : Below w.heap.size w w1 := below_of ((Below.refl _ w).alloc (Nat.le_refl _) _) h1
  have bw4 : Below w.heap.size w W4 := below_of (below_of bw1 b12) b24
  have hbox := old_block b24 (old_block b12 (old_block h1 (heap_alloc_new w _)))
  refine ⟨bw4, fun ho hb => ⟨⟨old_block hb hbox, (l2.later b24).later hb, l4.later hb, by omega, below_of bw4 hb, bw1.size, by have := bw1.size; omega, ho⟩, by omega, by simp, by simp, rfl, by simp⟩⟩
theorem ap_boxes {w wr : World} {p q : Int} {lb mb lb' mb' k n : Nat} {L M : List Fl} {a : Option Addr} {X : List OX} (h : ApK w wr p q lb mb lb' mb' k n L M a X) (o : OX) :
    Hid (Ob ((wr.alloc (.cells #[.int .i64 o.knd, .int .i64 o.f.x.frm, .int .i64 o.f.x.to, .int .i64 o.f.x.at_, .slice o.f.a o.f.x.bytes.length o.f.c, .int .i64 o.n, .int .i64 o.bit, .int .i64 o.now] 34)).alloc (.cells #[.int .i64 o.f.x.frm, .int .i64 o.f.x.to, .int .i64 o.f.x.at_, .slice o.f.a o.f.x.bytes.length o.f.c] 32)) wr.heap.size o) ∧
    Hid (ApS w ((wr.alloc (.cells #[.int .i64 o.knd, .int .i64 o.f.x.frm, .int .i64 o.f.x.to, .int .i64 o.f.x.at_, .slice o.f.a o.f.x.bytes.length o.f.c, .int .i64 o.n, .int .i64 o.bit, .int .i64 o.now] 34)).alloc (.cells #[.int .i64 o.f.x.frm, .int .i64 o.f.x.to, .int .i64 o.f.x.at_, .slice o.f.a o.f.x.bytes.length o.f.c] 32)) p q lb mb lb' mb' n L M a X) ∧
    (∀ A B, ((wr.alloc A).alloc B).cell? ⟨w.heap.size, 0, none⟩ = some (.int .i64 p)) ∧ (∀ A B, ((wr.alloc A).alloc B).cell? ⟨w.heap.size, 1, none⟩ = some (.int .i64 q)) := by
  have hb : ∀ A B, Below wr.heap.size wr ((wr.alloc A).alloc B) := fun A B => ((Below.refl _ wr).alloc (Nat.le_refl _) _).alloc (by simp) _
  refine ⟨⟨old_block ((Below.refl _ _).alloc (Nat.le_refl _) _) (heap_alloc_new wr _), ?_⟩, h.s.later (hb _ _), fun A B => ?_, fun A B => ?_⟩
  · have := heap_alloc_new (wr.alloc (.cells #[.int .i64 o.knd, .int .i64 o.f.x.frm, .int .i64 o.f.x.to, .int .i64 o.f.x.at_, .slice o.f.a o.f.x.bytes.length o.f.c, .int .i64 o.n, .int .i64 o.bit, .int .i64 o.now] 34)) (.cells #[.int .i64 o.f.x.frm, .int .i64 o.f.x.to, .int .i64 o.f.x.at_, .slice o.f.a o.f.x.bytes.length o.f.c] 32)
    rw [World.size_alloc] at this
    exact this
  · rw [cell_of (old_block (hb A B) h.s.box)]; rfl
  · rw [cell_of (old_block (hb A B) h.s.box)]; rfl
theorem ap_own {w wr wc : World} {p q : Int} {lb mb lb' mb' k n : Nat} {L M : List Fl} {a : Option Addr} {X : List OX} {x : OX} (h : ApK w wr p q lb mb lb' mb' k n L M a X) (hs : ApS w wc p q lb mb lb' mb' (n + 1 + 1) (opL L (kndN x.knd) x) (opL M (kndN x.knd) x) a X) (hown : x.f.x.frm = p ∧ x.f.x.to = q) (hk : k < 512) :
    ApK w wc p q lb mb lb' mb' (k + 1) (n + 1 + 1) (opL L (kndN x.knd) x) (opL M (kndN x.knd) x) a X := by
  obtain ⟨rfl, rfl⟩ := hown
  refine ⟨hs, by have := h.hn; omega, by have := h.hL; have := opL_len L (kndN x.knd) x; omega, by have := h.hM; have := opL_len M (kndN x.knd) x; omega, opL_same _ x h.eq (by have := h.hL; omega) (by have := h.hM; omega), opL_all _ x h.all⟩
theorem ap_other {w wr wc : World} {p q : Int} {lb mb lb' mb' k n : Nat} {L M : List Fl} {a : Option Addr} {X : List OX} {x : OX} (h : ApK w wr p q lb mb lb' mb' k n L M a X) (hs : ApS w wc p q lb mb lb' mb' (n + 1) (opL L (kndN x.knd) x) M a X) (hown : ¬ (x.f.x.frm = p ∧ x.f.x.to = q)) :
    ApK w wc p q lb mb lb' mb' (k + 1) (n + 1) (opL L (kndN x.knd) x) M a X := by
  refine ⟨hs, by have := h.hn; omega, by have := h.hL; have := opL_len L (kndN x.knd) x; omega, by have := h.hM; omega, ?_, h.all⟩
  rw [opL_other L _ x (fun e => hown ⟨e.1.symm, e.2.symm⟩)]
  exact h.eq
theorem ap_box {w wr : World} {p q : Int} {lb mb lb' mb' k n : Nat} {L M : List Fl} {a : Option Addr} {X : List OX} (h : ApK w wr p q lb mb lb' mb' k n L M a X) {W : World} (hb : Below wr.heap.size wr W) :
    W.cell? ⟨w.heap.size, 0, none⟩ = some (.int .i64 p) ∧ W.cell? ⟨w.heap.size, 1, none⟩ = some (.int .i64 q) :=
  ⟨by rw [cell_of (old_block hb h.s.box)]; rfl, by rw [cell_of (old_block hb h.s.box)]; rfl⟩
theorem Try.info30 : (Try.prog.info? 30).map (fun i => (i.zero, i.size, i.bytes)) = some (some (.slice none 0 0), 1, 24) := by kernel_rfl
theorem made_one (W : World) (y : Nat × FX) : ∀ j u, [slv y][j]? = some u → (W.alloc (.cells #[.slice y.2.a y.2.x.bytes.length y.2.c] 30)).cell? ((⟨W.heap.size, 0, none⟩ : Addr).add j) = some u := by
  intro j u hu
  obtain rfl : j = 0 := by
    have := (List.getElem?_eq_some_iff.1 hu).1
    simp at this
    exact this
  simp at hu
  subst hu
  show (W.alloc (.cells #[.slice y.2.a y.2.x.bytes.length y.2.c] 30)).cell? ⟨W.heap.size, 0 + 0, none⟩ = _
  rw [cell_of (heap_alloc_new W _)]
  rfl
theorem still_in {F : Fence} {n : Nat} {P : Program} {c : Code} {K : Act → World → Prop} {Q : Exit → Act → World → Prop} {a : Act} {w : World} (h : c.wpIn F n P (Exit.then K (fun _ _ _ => False)) a w) : c.wpIn F n P (Exit.then K Q) a w := wpIn_mono h (fun e a w h => by
  cases e with
  | normal => exact h
  | _ => exact h.elim)
/-- All, on what lies below s. -/
theorem ap_all {wr W : World} {p q : Int} {lb mb n : Nat} {L : List Fl} (h : Lk No wr lb mb n L) (hb : Below wr.heap.size wr W) (hp : In64 p) (hq : In64 q) :
    Calls Try.prog 21 #[.pointer (some ⟨lb, 0, none⟩), .int .i64 p, .int .i64 q] W fun e w' => ∃ g ad Y, e = .returned (.func (.func 43) #[] #[.pointer (some ⟨g, 0, none⟩)]) ∧ Hid (w'.cell? ⟨g, 0, none⟩ = some (.slice ad Y.length Y.length) ∧ FxAt (fun k => False ∨ wr.heap.size ≤ k) w' ad Y ∧ Y.map FX.x = L.filter (pf p q) ∧ Below W.heap.size W w' ∧ (∀ y ∈ Y, y.x.bytes.length ≤ 400) ∧ Y.length ≤ 512) := by
  have hl : Lk (fun k => False ∨ wr.heap.size ≤ k) W lb mb n L := (h.sub (M := fun k => False ∨ wr.heap.size ≤ k) (fun k hk hM => by rcases hM with hM | hM; exact hM.elim; omega)).later hb
  refine (all_any W _ lb mb n L hl p q hp hq).mono ?_
  rintro e w' ⟨g, ad, Y, rfl, H⟩
  refine ⟨g, ad, Y, rfl, H.out.1, H.out.2.2.1, H.out.2.2.2.1, H.out.2.2.2.2, fun y hy => ?_, ?_⟩
  · have : y.x ∈ L.filter (pf p q) := by rw [← H.out.2.2.2.1]; exact List.mem_map_of_mem hy
    exact (h.ok _ (List.mem_filter.1 this).1).b2
  · have := congrArg List.length H.out.2.2.2.1
    rw [List.length_map] at this
    rw [this]
    exact Nat.le_trans (List.length_filter_le _ _) h.len
attribute [local go_sem] Oper.semAt_some
set_option maxRecDepth 20000 in
set_option maxHeartbeats 16000000 in
theorem apart_any (w : World) (a : Option Addr) (c : Nat) (l : List OX) (h : OxAt w a l) (hl : l.length ≤ 140737488351232) (p q : Int) (hp : In64 p) (hq : In64 q) :
    Calls Try.prog 7 #[.slice a l.length c, .agg #[.int .i64 p, .int .i64 q]] w fun e w' => e = .returned (.bool true) ∧ Hid (Below w.heap.size w w') := by
  have HW : Hid (∀ W, Calls Try.prog 9 #[] W fun e w' => e = .returned (.bool true) ∧ Hid (Below W.heap.size W w')) := wakes_any
  have HF : Hid (∀ W, Below w.heap.size w W → Calls Try.prog 11 #[.slice a l.length c] W fun e w' => ∃ a' c', e = .returned (.slice a' (fews l (min l.length 80)).length c') ∧ Hid (OxAt w' a' (fews l (min l.length 80)) ∧ Below W.heap.size W w')) := fun W hb => by
    refine (few_any W a c l (h.later hb) hl).mono ?_
    rintro e w' ⟨v, rfl, H⟩
    obtain ⟨a', c', rfl, _, _, hx⟩ := ox_own H.out.1 (fun o ho => by
      obtain ⟨o', h1, rfl⟩ := List.mem_map.1 ho
      exact (few_came ((h.later hb).ok o' (List.mem_of_mem_take h1))).later H.out.2)
    exact ⟨a', c', rfl, hx, H.out.2⟩
  obtain ⟨X, hX⟩ : ∃ X, X = fews l (min l.length 80) := ⟨_, rfl⟩
  have hX80 : X.length ≤ 80 := by rw [hX, fews_len (Nat.min_le_left _ _)]; omega
  rw [← hX] at HF
  clear hX h hl
  obtain ⟨m, hm⟩ : ∃ m, X.length = m := ⟨_, rfl⟩
  rw [hm] at HF hX80
  have HP : Hid (In64 p ∧ In64 q) := ⟨hp, hq⟩
  clear hp hq
  refine (callsIn_wide (n := 3)).1 ?_
  refine callsIn_of_wp_marks Try.func7 rfl trivial ?_
  simp only [Try.ntmps7, List.size_toArray, List.length_cons, List.length_nil, Nat.reduceAdd, Nat.reduceSub, Array.replicate_succ, Array.replicate_zero, List.push_toArray, List.append_toArray, List.nil_append, List.cons_append]
  gi_wp2_with (first
    | (refine ⟨trivial, ?_⟩; gi_at_call 9; refine (callsIn_wide.2 (HW.out _)).mono ?_; rintro e w1 ⟨rfl, H1⟩)
    | (refine ⟨trivial, ?_⟩; gi_at_call 10; refine (callsIn_wide.2 (new_any _)).mono ?_; rintro e w2 ⟨rfl, rfl⟩)
    | (refine ⟨trivial, ?_⟩; gi_at_call 11; refine (callsIn_wide.2 (HF.out _ (ap_start (w5 := w) (a := a) (X := []) H1.out).1)).mono ?_; rintro e w5 ⟨a5, c5, rfl, H5⟩; have HK5 : Hid _ := (ap_start (w5 := w5) (a := a5) (X := X) H1.out).2 H5.out.1 H5.out.2; clear H5))
  generalize w1.heap.size + 1 + 1 + 1 = lb' at *
  generalize w1.heap.size + 1 + 1 = mb' at *
  generalize w1.heap.size + 1 = lb at *
  generalize w1.heap.size = mb at *
  clear H1 HW HF
  gi_loopw [7, 28] (fun full i wr => full = .bool false ∧ ∃ (k n : Nat) (L M : List Fl), k ≤ m ∧ i = .int .i64 k ∧ Hid (ApK w wr p q lb mb lb' mb' k n L M a5 X)) (fun _ i _ => m - (intOf i).toNat)
  case atStart => exact ⟨rfl, 0, 0, [], [], Nat.zero_le _, rfl, HK5.out⟩
  case round =>
    rename World => wo
    obtain ⟨rfl, k, n, L, M, hk, rfl, HKK⟩ := hrel
    by_cases hlt : k < m
    · obtain ⟨x, hx⟩ : ∃ x, x = X[k]'(by omega) := ⟨_, rfl⟩
      obtain ⟨b, oo, rfl, hcs⟩ := HKK.out.s.ops.here (by omega)
      have HC : Hid (Oc wo b (oo + k * 8) x) := by rw [hx]; exact oc_of hcs k (by omega)
      have HXM : Hid (x ∈ X) := by show x ∈ X; rw [hx]; exact List.getElem_mem _
      obtain ⟨q0, q1, q2, q3, q4, q5, q6, q7⟩ := HC.out
      clear hcs hx
      have HWB := ap_boxes HKK.out x
      obtain ⟨HB0, HS0, bx0, bx1⟩ := HWB
      have HN : Hid (n ≤ 160) := by have := HKK.out.hn; show n ≤ 160; omega
      have HLn : Hid (L.length ≤ 80 ∧ M.length ≤ 80) := ⟨by have := HKK.out.hL; omega, by have := HKK.out.hM; omega⟩
      have hx0 := idx0 lb lb'
      have hx1 := idx1 lb lb'
      have heq := eqlP x.f.x.frm x.f.x.to p q
      by_cases hown : x.f.x.frm = p ∧ x.f.x.to = q
      · rw [show (x.f.x.frm == p && x.f.x.to == q) = true by simp [hown]] at heq
        have HOW : Hid (x.f.x.frm = p ∧ x.f.x.to = q) := hown
        clear hown
        gi_wp2
        clear q0 q1 q2 q3 q4 q5 q6 q7 bx0 bx1 heq HC
        gi_loopw [7, 44] (fun full i wc => full = .bool false ∧ ∃ j : Nat, j ≤ 2 ∧ i = .int .i64 j ∧ Hid (Ob wc wo.heap.size x) ∧ Hid ((j = 0 ∧ ApS w wc p q lb mb lb' mb' n L M (some ⟨b, oo, none⟩) X) ∨ (j = 1 ∧ ApS w wc p q lb mb lb' mb' (n + 1) (opL L (kndN x.knd) x) M (some ⟨b, oo, none⟩) X) ∨ (j = 2 ∧ ApS w wc p q lb mb lb' mb' (n + 1 + 1) (opL L (kndN x.knd) x) (opL M (kndN x.knd) x) (some ⟨b, oo, none⟩) X))) (fun _ i _ => 2 - (intOf i).toNat)
        case atStart => exact ⟨rfl, 0, by omega, rfl, HB0.out, .inl ⟨rfl, HS0.out⟩⟩
        case round =>
          obtain ⟨rfl, j, hj2, rfl, HB, HS'⟩ := hrel
          rcases HS'.out with ⟨rfl, HSo⟩ | ⟨rfl, HSo⟩ | ⟨rfl, HSo⟩
          · have HS : Hid _ := HSo
            clear HSo HS'
            rcases knd_le x.knd with hkn | hkn | hkn | hkn | hkn
            all_goals rw [hkn]
            · have HKD : Hid (∀ W, Calls Try.prog 24 #[.agg #[.int .i64 x.knd, .int .i64 x.f.x.frm, .int .i64 x.f.x.to, .int .i64 x.f.x.at_, .slice x.f.a x.f.x.bytes.length x.f.c, .int .i64 x.n, .int .i64 x.bit, .int .i64 x.now]] W fun e w' => e = .returned (.int .i64 0) ∧ Hid (Below W.heap.size W w')) := fun W => by have := kind_any W x; rw [hkn] at this; exact this
              clear hkn
              have d0 := cell_of HB.out.op 0; have d1 := cell_of HB.out.op 1; have d2 := cell_of HB.out.op 2; have d3 := cell_of HB.out.op 3; have d4 := cell_of HB.out.op 4; have d5 := cell_of HB.out.op 5; have d6 := cell_of HB.out.op 6; have d7 := cell_of HB.out.op 7
              simp only [List.getElem?_toArray, List.getElem?_cons_zero, List.getElem?_cons_succ] at d0 d1 d2 d3 d4 d5 d6 d7
              gi_wp2_with (first
                | (refine ⟨trivial, ?_⟩; gi_at_call 24; refine (callsIn_wide.2 (HKD.out _)).mono ?_; rintro e w6 ⟨rfl, H6⟩; have HS6 : Hid _ := HS.out.later H6.out; have HB6 : Hid (Ob w6 wo.heap.size x) := HB.out.later H6.out; have g0 := cell_of HB6.out.fl 0; have g1 := cell_of HB6.out.fl 1; have g2 := cell_of HB6.out.fl 2; have g3 := cell_of HB6.out.fl 3; have k0 := cell_of HB6.out.op 0; have k1 := cell_of HB6.out.op 1; have k2 := cell_of HB6.out.op 2; have k3 := cell_of HB6.out.op 3; have k4 := cell_of HB6.out.op 4; have k5 := cell_of HB6.out.op 5; have k6 := cell_of HB6.out.op 6; have k7 := cell_of HB6.out.op 7; simp only [List.getElem?_toArray, List.getElem?_cons_zero, List.getElem?_cons_succ] at g0 g1 g2 g3 k0 k1 k2 k3 k4 k5 k6 k7)
                | (refine ⟨trivial, ?_⟩; gi_at_call 16; refine (callsIn_wide.2 (ap_send0 HS6.out HB6.out (HS6.out.ops.ok x HXM.out) (by have := HN.out; omega) (by have := HLn.out.1; omega))).mono ?_; rintro e w7 ⟨r7, rfl, hr7, H7⟩))
              go_roundw
              case rel => exact ⟨rfl, 1, by omega, rfl, H7.out.2, .inr (.inl ⟨rfl, H7.out.1⟩)⟩
              case measure => simp [intOf]
            · have HKD : Hid (∀ W, Calls Try.prog 24 #[.agg #[.int .i64 x.knd, .int .i64 x.f.x.frm, .int .i64 x.f.x.to, .int .i64 x.f.x.at_, .slice x.f.a x.f.x.bytes.length x.f.c, .int .i64 x.n, .int .i64 x.bit, .int .i64 x.now]] W fun e w' => e = .returned (.int .i64 1) ∧ Hid (Below W.heap.size W w')) := fun W => by have := kind_any W x; rw [hkn] at this; exact this
              clear hkn
              have d0 := cell_of HB.out.op 0; have d1 := cell_of HB.out.op 1; have d2 := cell_of HB.out.op 2; have d3 := cell_of HB.out.op 3; have d4 := cell_of HB.out.op 4; have d5 := cell_of HB.out.op 5; have d6 := cell_of HB.out.op 6; have d7 := cell_of HB.out.op 7
              simp only [List.getElem?_toArray, List.getElem?_cons_zero, List.getElem?_cons_succ] at d0 d1 d2 d3 d4 d5 d6 d7
              gi_wp2_with (first
                | (refine ⟨trivial, ?_⟩; gi_at_call 24; refine (callsIn_wide.2 (HKD.out _)).mono ?_; rintro e w6 ⟨rfl, H6⟩; have HS6 : Hid _ := HS.out.later H6.out; have HB6 : Hid (Ob w6 wo.heap.size x) := HB.out.later H6.out; have g0 := cell_of HB6.out.fl 0; have g1 := cell_of HB6.out.fl 1; have g2 := cell_of HB6.out.fl 2; have g3 := cell_of HB6.out.fl 3; have k0 := cell_of HB6.out.op 0; have k1 := cell_of HB6.out.op 1; have k2 := cell_of HB6.out.op 2; have k3 := cell_of HB6.out.op 3; have k4 := cell_of HB6.out.op 4; have k5 := cell_of HB6.out.op 5; have k6 := cell_of HB6.out.op 6; have k7 := cell_of HB6.out.op 7; simp only [List.getElem?_toArray, List.getElem?_cons_zero, List.getElem?_cons_succ] at g0 g1 g2 g3 k0 k1 k2 k3 k4 k5 k6 k7)
                | (refine ⟨trivial, ?_⟩; gi_at_call 20; refine (callsIn_wide.2 (ap_del0 HS6.out HB6.out (HS6.out.ops.ok x HXM.out) (by have := HN.out; omega) (by have := HLn.out.1; omega))).mono ?_; rintro e w7 ⟨v7, rfl, H7⟩))
              go_roundw
              case rel => exact ⟨rfl, 1, by omega, rfl, H7.out.2, .inr (.inl ⟨rfl, H7.out.1⟩)⟩
              case measure => simp [intOf]
            · have HKD : Hid (∀ W, Calls Try.prog 24 #[.agg #[.int .i64 x.knd, .int .i64 x.f.x.frm, .int .i64 x.f.x.to, .int .i64 x.f.x.at_, .slice x.f.a x.f.x.bytes.length x.f.c, .int .i64 x.n, .int .i64 x.bit, .int .i64 x.now]] W fun e w' => e = .returned (.int .i64 2) ∧ Hid (Below W.heap.size W w')) := fun W => by have := kind_any W x; rw [hkn] at this; exact this
              clear hkn
              have d0 := cell_of HB.out.op 0; have d1 := cell_of HB.out.op 1; have d2 := cell_of HB.out.op 2; have d3 := cell_of HB.out.op 3; have d4 := cell_of HB.out.op 4; have d5 := cell_of HB.out.op 5; have d6 := cell_of HB.out.op 6; have d7 := cell_of HB.out.op 7
              simp only [List.getElem?_toArray, List.getElem?_cons_zero, List.getElem?_cons_succ] at d0 d1 d2 d3 d4 d5 d6 d7
              gi_wp2_with (first
                | (refine ⟨trivial, ?_⟩; gi_at_call 24; refine (callsIn_wide.2 (HKD.out _)).mono ?_; rintro e w6 ⟨rfl, H6⟩; have HS6 : Hid _ := HS.out.later H6.out; have HB6 : Hid (Ob w6 wo.heap.size x) := HB.out.later H6.out; have g0 := cell_of HB6.out.fl 0; have g1 := cell_of HB6.out.fl 1; have g2 := cell_of HB6.out.fl 2; have g3 := cell_of HB6.out.fl 3; have k0 := cell_of HB6.out.op 0; have k1 := cell_of HB6.out.op 1; have k2 := cell_of HB6.out.op 2; have k3 := cell_of HB6.out.op 3; have k4 := cell_of HB6.out.op 4; have k5 := cell_of HB6.out.op 5; have k6 := cell_of HB6.out.op 6; have k7 := cell_of HB6.out.op 7; simp only [List.getElem?_toArray, List.getElem?_cons_zero, List.getElem?_cons_succ] at g0 g1 g2 g3 k0 k1 k2 k3 k4 k5 k6 k7)
                | (refine ⟨trivial, ?_⟩; gi_at_call 19; refine (callsIn_wide.2 (ap_lose0 HS6.out HB6.out (HS6.out.ops.ok x HXM.out) (by have := HN.out; omega) (by have := HLn.out.1; omega))).mono ?_; rintro e w7 ⟨v7, rfl, H7⟩))
              go_roundw
              case rel => exact ⟨rfl, 1, by omega, rfl, H7.out.2, .inr (.inl ⟨rfl, H7.out.1⟩)⟩
              case measure => simp [intOf]
            · have HKD : Hid (∀ W, Calls Try.prog 24 #[.agg #[.int .i64 x.knd, .int .i64 x.f.x.frm, .int .i64 x.f.x.to, .int .i64 x.f.x.at_, .slice x.f.a x.f.x.bytes.length x.f.c, .int .i64 x.n, .int .i64 x.bit, .int .i64 x.now]] W fun e w' => e = .returned (.int .i64 3) ∧ Hid (Below W.heap.size W w')) := fun W => by have := kind_any W x; rw [hkn] at this; exact this
              clear hkn
              have d0 := cell_of HB.out.op 0; have d1 := cell_of HB.out.op 1; have d2 := cell_of HB.out.op 2; have d3 := cell_of HB.out.op 3; have d4 := cell_of HB.out.op 4; have d5 := cell_of HB.out.op 5; have d6 := cell_of HB.out.op 6; have d7 := cell_of HB.out.op 7
              simp only [List.getElem?_toArray, List.getElem?_cons_zero, List.getElem?_cons_succ] at d0 d1 d2 d3 d4 d5 d6 d7
              gi_wp2_with (first
                | (refine ⟨trivial, ?_⟩; gi_at_call 24; refine (callsIn_wide.2 (HKD.out _)).mono ?_; rintro e w6 ⟨rfl, H6⟩; have HS6 : Hid _ := HS.out.later H6.out; have HB6 : Hid (Ob w6 wo.heap.size x) := HB.out.later H6.out; have g0 := cell_of HB6.out.fl 0; have g1 := cell_of HB6.out.fl 1; have g2 := cell_of HB6.out.fl 2; have g3 := cell_of HB6.out.fl 3; have k0 := cell_of HB6.out.op 0; have k1 := cell_of HB6.out.op 1; have k2 := cell_of HB6.out.op 2; have k3 := cell_of HB6.out.op 3; have k4 := cell_of HB6.out.op 4; have k5 := cell_of HB6.out.op 5; have k6 := cell_of HB6.out.op 6; have k7 := cell_of HB6.out.op 7; simp only [List.getElem?_toArray, List.getElem?_cons_zero, List.getElem?_cons_succ] at g0 g1 g2 g3 k0 k1 k2 k3 k4 k5 k6 k7)
                | (refine ⟨trivial, ?_⟩; gi_at_call 17; refine (callsIn_wide.2 (ap_doub0 HS6.out HB6.out (HS6.out.ops.ok x HXM.out) (by have := HN.out; omega) (by have := HLn.out.1; omega))).mono ?_; rintro e w7 ⟨r7, rfl, hr7, H7⟩))
              go_roundw
              case rel => exact ⟨rfl, 1, by omega, rfl, H7.out.2, .inr (.inl ⟨rfl, H7.out.1⟩)⟩
              case measure => simp [intOf]
            · have HKD : Hid (∀ W, Calls Try.prog 24 #[.agg #[.int .i64 x.knd, .int .i64 x.f.x.frm, .int .i64 x.f.x.to, .int .i64 x.f.x.at_, .slice x.f.a x.f.x.bytes.length x.f.c, .int .i64 x.n, .int .i64 x.bit, .int .i64 x.now]] W fun e w' => e = .returned (.int .i64 4) ∧ Hid (Below W.heap.size W w')) := fun W => by have := kind_any W x; rw [hkn] at this; exact this
              clear hkn
              have d0 := cell_of HB.out.op 0; have d1 := cell_of HB.out.op 1; have d2 := cell_of HB.out.op 2; have d3 := cell_of HB.out.op 3; have d4 := cell_of HB.out.op 4; have d5 := cell_of HB.out.op 5; have d6 := cell_of HB.out.op 6; have d7 := cell_of HB.out.op 7
              simp only [List.getElem?_toArray, List.getElem?_cons_zero, List.getElem?_cons_succ] at d0 d1 d2 d3 d4 d5 d6 d7
              gi_wp2_with (first
                | (refine ⟨trivial, ?_⟩; gi_at_call 24; refine (callsIn_wide.2 (HKD.out _)).mono ?_; rintro e w6 ⟨rfl, H6⟩; have HS6 : Hid _ := HS.out.later H6.out; have HB6 : Hid (Ob w6 wo.heap.size x) := HB.out.later H6.out; have g0 := cell_of HB6.out.fl 0; have g1 := cell_of HB6.out.fl 1; have g2 := cell_of HB6.out.fl 2; have g3 := cell_of HB6.out.fl 3; have k0 := cell_of HB6.out.op 0; have k1 := cell_of HB6.out.op 1; have k2 := cell_of HB6.out.op 2; have k3 := cell_of HB6.out.op 3; have k4 := cell_of HB6.out.op 4; have k5 := cell_of HB6.out.op 5; have k6 := cell_of HB6.out.op 6; have k7 := cell_of HB6.out.op 7; simp only [List.getElem?_toArray, List.getElem?_cons_zero, List.getElem?_cons_succ] at g0 g1 g2 g3 k0 k1 k2 k3 k4 k5 k6 k7)
                | (refine ⟨trivial, ?_⟩; gi_at_call 22; refine (callsIn_wide.2 (ap_cor0 HS6.out HB6.out (HS6.out.ops.ok x HXM.out) (by have := HN.out; omega) (by have := HLn.out.1; omega))).mono ?_; rintro e w7 ⟨v7, rfl, H7⟩))
              go_roundw
              case rel => exact ⟨rfl, 1, by omega, rfl, H7.out.2, .inr (.inl ⟨rfl, H7.out.1⟩)⟩
              case measure => simp [intOf]
          · have HS : Hid _ := HSo
            clear HSo HS'
            rcases knd_le x.knd with hkn | hkn | hkn | hkn | hkn
            all_goals rw [hkn] at HS ⊢
            · have HKD : Hid (∀ W, Calls Try.prog 24 #[.agg #[.int .i64 x.knd, .int .i64 x.f.x.frm, .int .i64 x.f.x.to, .int .i64 x.f.x.at_, .slice x.f.a x.f.x.bytes.length x.f.c, .int .i64 x.n, .int .i64 x.bit, .int .i64 x.now]] W fun e w' => e = .returned (.int .i64 0) ∧ Hid (Below W.heap.size W w')) := fun W => by have := kind_any W x; rw [hkn] at this; exact this
              clear hkn
              have d0 := cell_of HB.out.op 0; have d1 := cell_of HB.out.op 1; have d2 := cell_of HB.out.op 2; have d3 := cell_of HB.out.op 3; have d4 := cell_of HB.out.op 4; have d5 := cell_of HB.out.op 5; have d6 := cell_of HB.out.op 6; have d7 := cell_of HB.out.op 7
              simp only [List.getElem?_toArray, List.getElem?_cons_zero, List.getElem?_cons_succ] at d0 d1 d2 d3 d4 d5 d6 d7
              gi_wp2_with (first
                | (refine ⟨trivial, ?_⟩; gi_at_call 24; refine (callsIn_wide.2 (HKD.out _)).mono ?_; rintro e w6 ⟨rfl, H6⟩; have HS6 : Hid _ := HS.out.later H6.out; have HB6 : Hid (Ob w6 wo.heap.size x) := HB.out.later H6.out; have g0 := cell_of HB6.out.fl 0; have g1 := cell_of HB6.out.fl 1; have g2 := cell_of HB6.out.fl 2; have g3 := cell_of HB6.out.fl 3; have k0 := cell_of HB6.out.op 0; have k1 := cell_of HB6.out.op 1; have k2 := cell_of HB6.out.op 2; have k3 := cell_of HB6.out.op 3; have k4 := cell_of HB6.out.op 4; have k5 := cell_of HB6.out.op 5; have k6 := cell_of HB6.out.op 6; have k7 := cell_of HB6.out.op 7; simp only [List.getElem?_toArray, List.getElem?_cons_zero, List.getElem?_cons_succ] at g0 g1 g2 g3 k0 k1 k2 k3 k4 k5 k6 k7)
                | (refine ⟨trivial, ?_⟩; gi_at_call 16; refine (callsIn_wide.2 (ap_send1 HS6.out HB6.out (HS6.out.ops.ok x HXM.out) (by have := HN.out; omega) (by have := HLn.out.2; omega))).mono ?_; rintro e w7 ⟨r7, rfl, hr7, H7⟩))
              go_roundw
              case rel => exact ⟨rfl, 2, by omega, rfl, H7.out.2, .inr (.inr ⟨rfl, H7.out.1⟩)⟩
              case measure => simp [intOf]
            · have HKD : Hid (∀ W, Calls Try.prog 24 #[.agg #[.int .i64 x.knd, .int .i64 x.f.x.frm, .int .i64 x.f.x.to, .int .i64 x.f.x.at_, .slice x.f.a x.f.x.bytes.length x.f.c, .int .i64 x.n, .int .i64 x.bit, .int .i64 x.now]] W fun e w' => e = .returned (.int .i64 1) ∧ Hid (Below W.heap.size W w')) := fun W => by have := kind_any W x; rw [hkn] at this; exact this
              clear hkn
              have d0 := cell_of HB.out.op 0; have d1 := cell_of HB.out.op 1; have d2 := cell_of HB.out.op 2; have d3 := cell_of HB.out.op 3; have d4 := cell_of HB.out.op 4; have d5 := cell_of HB.out.op 5; have d6 := cell_of HB.out.op 6; have d7 := cell_of HB.out.op 7
              simp only [List.getElem?_toArray, List.getElem?_cons_zero, List.getElem?_cons_succ] at d0 d1 d2 d3 d4 d5 d6 d7
              gi_wp2_with (first
                | (refine ⟨trivial, ?_⟩; gi_at_call 24; refine (callsIn_wide.2 (HKD.out _)).mono ?_; rintro e w6 ⟨rfl, H6⟩; have HS6 : Hid _ := HS.out.later H6.out; have HB6 : Hid (Ob w6 wo.heap.size x) := HB.out.later H6.out; have g0 := cell_of HB6.out.fl 0; have g1 := cell_of HB6.out.fl 1; have g2 := cell_of HB6.out.fl 2; have g3 := cell_of HB6.out.fl 3; have k0 := cell_of HB6.out.op 0; have k1 := cell_of HB6.out.op 1; have k2 := cell_of HB6.out.op 2; have k3 := cell_of HB6.out.op 3; have k4 := cell_of HB6.out.op 4; have k5 := cell_of HB6.out.op 5; have k6 := cell_of HB6.out.op 6; have k7 := cell_of HB6.out.op 7; simp only [List.getElem?_toArray, List.getElem?_cons_zero, List.getElem?_cons_succ] at g0 g1 g2 g3 k0 k1 k2 k3 k4 k5 k6 k7)
                | (refine ⟨trivial, ?_⟩; gi_at_call 20; refine (callsIn_wide.2 (ap_del1 HS6.out HB6.out (HS6.out.ops.ok x HXM.out) (by have := HN.out; omega) (by have := HLn.out.2; omega))).mono ?_; rintro e w7 ⟨v7, rfl, H7⟩))
              go_roundw
              case rel => exact ⟨rfl, 2, by omega, rfl, H7.out.2, .inr (.inr ⟨rfl, H7.out.1⟩)⟩
              case measure => simp [intOf]
            · have HKD : Hid (∀ W, Calls Try.prog 24 #[.agg #[.int .i64 x.knd, .int .i64 x.f.x.frm, .int .i64 x.f.x.to, .int .i64 x.f.x.at_, .slice x.f.a x.f.x.bytes.length x.f.c, .int .i64 x.n, .int .i64 x.bit, .int .i64 x.now]] W fun e w' => e = .returned (.int .i64 2) ∧ Hid (Below W.heap.size W w')) := fun W => by have := kind_any W x; rw [hkn] at this; exact this
              clear hkn
              have d0 := cell_of HB.out.op 0; have d1 := cell_of HB.out.op 1; have d2 := cell_of HB.out.op 2; have d3 := cell_of HB.out.op 3; have d4 := cell_of HB.out.op 4; have d5 := cell_of HB.out.op 5; have d6 := cell_of HB.out.op 6; have d7 := cell_of HB.out.op 7
              simp only [List.getElem?_toArray, List.getElem?_cons_zero, List.getElem?_cons_succ] at d0 d1 d2 d3 d4 d5 d6 d7
              gi_wp2_with (first
                | (refine ⟨trivial, ?_⟩; gi_at_call 24; refine (callsIn_wide.2 (HKD.out _)).mono ?_; rintro e w6 ⟨rfl, H6⟩; have HS6 : Hid _ := HS.out.later H6.out; have HB6 : Hid (Ob w6 wo.heap.size x) := HB.out.later H6.out; have g0 := cell_of HB6.out.fl 0; have g1 := cell_of HB6.out.fl 1; have g2 := cell_of HB6.out.fl 2; have g3 := cell_of HB6.out.fl 3; have k0 := cell_of HB6.out.op 0; have k1 := cell_of HB6.out.op 1; have k2 := cell_of HB6.out.op 2; have k3 := cell_of HB6.out.op 3; have k4 := cell_of HB6.out.op 4; have k5 := cell_of HB6.out.op 5; have k6 := cell_of HB6.out.op 6; have k7 := cell_of HB6.out.op 7; simp only [List.getElem?_toArray, List.getElem?_cons_zero, List.getElem?_cons_succ] at g0 g1 g2 g3 k0 k1 k2 k3 k4 k5 k6 k7)
                | (refine ⟨trivial, ?_⟩; gi_at_call 19; refine (callsIn_wide.2 (ap_lose1 HS6.out HB6.out (HS6.out.ops.ok x HXM.out) (by have := HN.out; omega) (by have := HLn.out.2; omega))).mono ?_; rintro e w7 ⟨v7, rfl, H7⟩))
              go_roundw
              case rel => exact ⟨rfl, 2, by omega, rfl, H7.out.2, .inr (.inr ⟨rfl, H7.out.1⟩)⟩
              case measure => simp [intOf]
            · have HKD : Hid (∀ W, Calls Try.prog 24 #[.agg #[.int .i64 x.knd, .int .i64 x.f.x.frm, .int .i64 x.f.x.to, .int .i64 x.f.x.at_, .slice x.f.a x.f.x.bytes.length x.f.c, .int .i64 x.n, .int .i64 x.bit, .int .i64 x.now]] W fun e w' => e = .returned (.int .i64 3) ∧ Hid (Below W.heap.size W w')) := fun W => by have := kind_any W x; rw [hkn] at this; exact this
              clear hkn
              have d0 := cell_of HB.out.op 0; have d1 := cell_of HB.out.op 1; have d2 := cell_of HB.out.op 2; have d3 := cell_of HB.out.op 3; have d4 := cell_of HB.out.op 4; have d5 := cell_of HB.out.op 5; have d6 := cell_of HB.out.op 6; have d7 := cell_of HB.out.op 7
              simp only [List.getElem?_toArray, List.getElem?_cons_zero, List.getElem?_cons_succ] at d0 d1 d2 d3 d4 d5 d6 d7
              gi_wp2_with (first
                | (refine ⟨trivial, ?_⟩; gi_at_call 24; refine (callsIn_wide.2 (HKD.out _)).mono ?_; rintro e w6 ⟨rfl, H6⟩; have HS6 : Hid _ := HS.out.later H6.out; have HB6 : Hid (Ob w6 wo.heap.size x) := HB.out.later H6.out; have g0 := cell_of HB6.out.fl 0; have g1 := cell_of HB6.out.fl 1; have g2 := cell_of HB6.out.fl 2; have g3 := cell_of HB6.out.fl 3; have k0 := cell_of HB6.out.op 0; have k1 := cell_of HB6.out.op 1; have k2 := cell_of HB6.out.op 2; have k3 := cell_of HB6.out.op 3; have k4 := cell_of HB6.out.op 4; have k5 := cell_of HB6.out.op 5; have k6 := cell_of HB6.out.op 6; have k7 := cell_of HB6.out.op 7; simp only [List.getElem?_toArray, List.getElem?_cons_zero, List.getElem?_cons_succ] at g0 g1 g2 g3 k0 k1 k2 k3 k4 k5 k6 k7)
                | (refine ⟨trivial, ?_⟩; gi_at_call 17; refine (callsIn_wide.2 (ap_doub1 HS6.out HB6.out (HS6.out.ops.ok x HXM.out) (by have := HN.out; omega) (by have := HLn.out.2; omega))).mono ?_; rintro e w7 ⟨r7, rfl, hr7, H7⟩))
              go_roundw
              case rel => exact ⟨rfl, 2, by omega, rfl, H7.out.2, .inr (.inr ⟨rfl, H7.out.1⟩)⟩
              case measure => simp [intOf]
            · have HKD : Hid (∀ W, Calls Try.prog 24 #[.agg #[.int .i64 x.knd, .int .i64 x.f.x.frm, .int .i64 x.f.x.to, .int .i64 x.f.x.at_, .slice x.f.a x.f.x.bytes.length x.f.c, .int .i64 x.n, .int .i64 x.bit, .int .i64 x.now]] W fun e w' => e = .returned (.int .i64 4) ∧ Hid (Below W.heap.size W w')) := fun W => by have := kind_any W x; rw [hkn] at this; exact this
              clear hkn
              have d0 := cell_of HB.out.op 0; have d1 := cell_of HB.out.op 1; have d2 := cell_of HB.out.op 2; have d3 := cell_of HB.out.op 3; have d4 := cell_of HB.out.op 4; have d5 := cell_of HB.out.op 5; have d6 := cell_of HB.out.op 6; have d7 := cell_of HB.out.op 7
              simp only [List.getElem?_toArray, List.getElem?_cons_zero, List.getElem?_cons_succ] at d0 d1 d2 d3 d4 d5 d6 d7
              gi_wp2_with (first
                | (refine ⟨trivial, ?_⟩; gi_at_call 24; refine (callsIn_wide.2 (HKD.out _)).mono ?_; rintro e w6 ⟨rfl, H6⟩; have HS6 : Hid _ := HS.out.later H6.out; have HB6 : Hid (Ob w6 wo.heap.size x) := HB.out.later H6.out; have g0 := cell_of HB6.out.fl 0; have g1 := cell_of HB6.out.fl 1; have g2 := cell_of HB6.out.fl 2; have g3 := cell_of HB6.out.fl 3; have k0 := cell_of HB6.out.op 0; have k1 := cell_of HB6.out.op 1; have k2 := cell_of HB6.out.op 2; have k3 := cell_of HB6.out.op 3; have k4 := cell_of HB6.out.op 4; have k5 := cell_of HB6.out.op 5; have k6 := cell_of HB6.out.op 6; have k7 := cell_of HB6.out.op 7; simp only [List.getElem?_toArray, List.getElem?_cons_zero, List.getElem?_cons_succ] at g0 g1 g2 g3 k0 k1 k2 k3 k4 k5 k6 k7)
                | (refine ⟨trivial, ?_⟩; gi_at_call 22; refine (callsIn_wide.2 (ap_cor1 HS6.out HB6.out (HS6.out.ops.ok x HXM.out) (by have := HN.out; omega) (by have := HLn.out.2; omega))).mono ?_; rintro e w7 ⟨v7, rfl, H7⟩))
              go_roundw
              case rel => exact ⟨rfl, 2, by omega, rfl, H7.out.2, .inr (.inr ⟨rfl, H7.out.1⟩)⟩
              case measure => simp [intOf]
          · have HS : Hid _ := HSo
            clear HSo HS'
            gi_wp2
            go_roundw
            case rel => exact ⟨rfl, k + 1, (n + 1 + 1), opL L (kndN x.knd) x, (opL M (kndN x.knd) x), by omega, by go_num, ap_own HKK.out HS.out HOW.out (by omega)⟩
            case measure => simp [intOf]; omega
      · rw [show (x.f.x.frm == p && x.f.x.to == q) = false by
          cases hb : (x.f.x.frm == p && x.f.x.to == q) with
          | false => rfl
          | true => exact absurd (by simpa using hb) hown] at heq
        have HOW : Hid (¬ (x.f.x.frm = p ∧ x.f.x.to = q)) := hown
        clear hown
        gi_wp2
        clear q0 q1 q2 q3 q4 q5 q6 q7 bx0 bx1 heq HC
        gi_loopw [7, 44] (fun full i wc => full = .bool false ∧ ∃ j : Nat, j ≤ 2 ∧ i = .int .i64 j ∧ Hid (Ob wc wo.heap.size x) ∧ Hid ((j = 0 ∧ ApS w wc p q lb mb lb' mb' n L M (some ⟨b, oo, none⟩) X) ∨ (j = 1 ∧ ApS w wc p q lb mb lb' mb' (n + 1) (opL L (kndN x.knd) x) M (some ⟨b, oo, none⟩) X) ∨ (j = 2 ∧ ApS w wc p q lb mb lb' mb' (n + 1) (opL L (kndN x.knd) x) M (some ⟨b, oo, none⟩) X))) (fun _ i _ => 2 - (intOf i).toNat)
        case atStart => exact ⟨rfl, 0, by omega, rfl, HB0.out, .inl ⟨rfl, HS0.out⟩⟩
        case round =>
          obtain ⟨rfl, j, hj2, rfl, HB, HS'⟩ := hrel
          rcases HS'.out with ⟨rfl, HSo⟩ | ⟨rfl, HSo⟩ | ⟨rfl, HSo⟩
          · have HS : Hid _ := HSo
            clear HSo HS'
            rcases knd_le x.knd with hkn | hkn | hkn | hkn | hkn
            all_goals rw [hkn]
            · have HKD : Hid (∀ W, Calls Try.prog 24 #[.agg #[.int .i64 x.knd, .int .i64 x.f.x.frm, .int .i64 x.f.x.to, .int .i64 x.f.x.at_, .slice x.f.a x.f.x.bytes.length x.f.c, .int .i64 x.n, .int .i64 x.bit, .int .i64 x.now]] W fun e w' => e = .returned (.int .i64 0) ∧ Hid (Below W.heap.size W w')) := fun W => by have := kind_any W x; rw [hkn] at this; exact this
              clear hkn
              have d0 := cell_of HB.out.op 0; have d1 := cell_of HB.out.op 1; have d2 := cell_of HB.out.op 2; have d3 := cell_of HB.out.op 3; have d4 := cell_of HB.out.op 4; have d5 := cell_of HB.out.op 5; have d6 := cell_of HB.out.op 6; have d7 := cell_of HB.out.op 7
              simp only [List.getElem?_toArray, List.getElem?_cons_zero, List.getElem?_cons_succ] at d0 d1 d2 d3 d4 d5 d6 d7
              gi_wp2_with (first
                | (refine ⟨trivial, ?_⟩; gi_at_call 24; refine (callsIn_wide.2 (HKD.out _)).mono ?_; rintro e w6 ⟨rfl, H6⟩; have HS6 : Hid _ := HS.out.later H6.out; have HB6 : Hid (Ob w6 wo.heap.size x) := HB.out.later H6.out; have g0 := cell_of HB6.out.fl 0; have g1 := cell_of HB6.out.fl 1; have g2 := cell_of HB6.out.fl 2; have g3 := cell_of HB6.out.fl 3; have k0 := cell_of HB6.out.op 0; have k1 := cell_of HB6.out.op 1; have k2 := cell_of HB6.out.op 2; have k3 := cell_of HB6.out.op 3; have k4 := cell_of HB6.out.op 4; have k5 := cell_of HB6.out.op 5; have k6 := cell_of HB6.out.op 6; have k7 := cell_of HB6.out.op 7; simp only [List.getElem?_toArray, List.getElem?_cons_zero, List.getElem?_cons_succ] at g0 g1 g2 g3 k0 k1 k2 k3 k4 k5 k6 k7)
                | (refine ⟨trivial, ?_⟩; gi_at_call 16; refine (callsIn_wide.2 (ap_send0 HS6.out HB6.out (HS6.out.ops.ok x HXM.out) (by have := HN.out; omega) (by have := HLn.out.1; omega))).mono ?_; rintro e w7 ⟨r7, rfl, hr7, H7⟩))
              go_roundw
              case rel => exact ⟨rfl, 1, by omega, rfl, H7.out.2, .inr (.inl ⟨rfl, H7.out.1⟩)⟩
              case measure => simp [intOf]
            · have HKD : Hid (∀ W, Calls Try.prog 24 #[.agg #[.int .i64 x.knd, .int .i64 x.f.x.frm, .int .i64 x.f.x.to, .int .i64 x.f.x.at_, .slice x.f.a x.f.x.bytes.length x.f.c, .int .i64 x.n, .int .i64 x.bit, .int .i64 x.now]] W fun e w' => e = .returned (.int .i64 1) ∧ Hid (Below W.heap.size W w')) := fun W => by have := kind_any W x; rw [hkn] at this; exact this
              clear hkn
              have d0 := cell_of HB.out.op 0; have d1 := cell_of HB.out.op 1; have d2 := cell_of HB.out.op 2; have d3 := cell_of HB.out.op 3; have d4 := cell_of HB.out.op 4; have d5 := cell_of HB.out.op 5; have d6 := cell_of HB.out.op 6; have d7 := cell_of HB.out.op 7
              simp only [List.getElem?_toArray, List.getElem?_cons_zero, List.getElem?_cons_succ] at d0 d1 d2 d3 d4 d5 d6 d7
              gi_wp2_with (first
                | (refine ⟨trivial, ?_⟩; gi_at_call 24; refine (callsIn_wide.2 (HKD.out _)).mono ?_; rintro e w6 ⟨rfl, H6⟩; have HS6 : Hid _ := HS.out.later H6.out; have HB6 : Hid (Ob w6 wo.heap.size x) := HB.out.later H6.out; have g0 := cell_of HB6.out.fl 0; have g1 := cell_of HB6.out.fl 1; have g2 := cell_of HB6.out.fl 2; have g3 := cell_of HB6.out.fl 3; have k0 := cell_of HB6.out.op 0; have k1 := cell_of HB6.out.op 1; have k2 := cell_of HB6.out.op 2; have k3 := cell_of HB6.out.op 3; have k4 := cell_of HB6.out.op 4; have k5 := cell_of HB6.out.op 5; have k6 := cell_of HB6.out.op 6; have k7 := cell_of HB6.out.op 7; simp only [List.getElem?_toArray, List.getElem?_cons_zero, List.getElem?_cons_succ] at g0 g1 g2 g3 k0 k1 k2 k3 k4 k5 k6 k7)
                | (refine ⟨trivial, ?_⟩; gi_at_call 20; refine (callsIn_wide.2 (ap_del0 HS6.out HB6.out (HS6.out.ops.ok x HXM.out) (by have := HN.out; omega) (by have := HLn.out.1; omega))).mono ?_; rintro e w7 ⟨v7, rfl, H7⟩))
              go_roundw
              case rel => exact ⟨rfl, 1, by omega, rfl, H7.out.2, .inr (.inl ⟨rfl, H7.out.1⟩)⟩
              case measure => simp [intOf]
            · have HKD : Hid (∀ W, Calls Try.prog 24 #[.agg #[.int .i64 x.knd, .int .i64 x.f.x.frm, .int .i64 x.f.x.to, .int .i64 x.f.x.at_, .slice x.f.a x.f.x.bytes.length x.f.c, .int .i64 x.n, .int .i64 x.bit, .int .i64 x.now]] W fun e w' => e = .returned (.int .i64 2) ∧ Hid (Below W.heap.size W w')) := fun W => by have := kind_any W x; rw [hkn] at this; exact this
              clear hkn
              have d0 := cell_of HB.out.op 0; have d1 := cell_of HB.out.op 1; have d2 := cell_of HB.out.op 2; have d3 := cell_of HB.out.op 3; have d4 := cell_of HB.out.op 4; have d5 := cell_of HB.out.op 5; have d6 := cell_of HB.out.op 6; have d7 := cell_of HB.out.op 7
              simp only [List.getElem?_toArray, List.getElem?_cons_zero, List.getElem?_cons_succ] at d0 d1 d2 d3 d4 d5 d6 d7
              gi_wp2_with (first
                | (refine ⟨trivial, ?_⟩; gi_at_call 24; refine (callsIn_wide.2 (HKD.out _)).mono ?_; rintro e w6 ⟨rfl, H6⟩; have HS6 : Hid _ := HS.out.later H6.out; have HB6 : Hid (Ob w6 wo.heap.size x) := HB.out.later H6.out; have g0 := cell_of HB6.out.fl 0; have g1 := cell_of HB6.out.fl 1; have g2 := cell_of HB6.out.fl 2; have g3 := cell_of HB6.out.fl 3; have k0 := cell_of HB6.out.op 0; have k1 := cell_of HB6.out.op 1; have k2 := cell_of HB6.out.op 2; have k3 := cell_of HB6.out.op 3; have k4 := cell_of HB6.out.op 4; have k5 := cell_of HB6.out.op 5; have k6 := cell_of HB6.out.op 6; have k7 := cell_of HB6.out.op 7; simp only [List.getElem?_toArray, List.getElem?_cons_zero, List.getElem?_cons_succ] at g0 g1 g2 g3 k0 k1 k2 k3 k4 k5 k6 k7)
                | (refine ⟨trivial, ?_⟩; gi_at_call 19; refine (callsIn_wide.2 (ap_lose0 HS6.out HB6.out (HS6.out.ops.ok x HXM.out) (by have := HN.out; omega) (by have := HLn.out.1; omega))).mono ?_; rintro e w7 ⟨v7, rfl, H7⟩))
              go_roundw
              case rel => exact ⟨rfl, 1, by omega, rfl, H7.out.2, .inr (.inl ⟨rfl, H7.out.1⟩)⟩
              case measure => simp [intOf]
            · have HKD : Hid (∀ W, Calls Try.prog 24 #[.agg #[.int .i64 x.knd, .int .i64 x.f.x.frm, .int .i64 x.f.x.to, .int .i64 x.f.x.at_, .slice x.f.a x.f.x.bytes.length x.f.c, .int .i64 x.n, .int .i64 x.bit, .int .i64 x.now]] W fun e w' => e = .returned (.int .i64 3) ∧ Hid (Below W.heap.size W w')) := fun W => by have := kind_any W x; rw [hkn] at this; exact this
              clear hkn
              have d0 := cell_of HB.out.op 0; have d1 := cell_of HB.out.op 1; have d2 := cell_of HB.out.op 2; have d3 := cell_of HB.out.op 3; have d4 := cell_of HB.out.op 4; have d5 := cell_of HB.out.op 5; have d6 := cell_of HB.out.op 6; have d7 := cell_of HB.out.op 7
              simp only [List.getElem?_toArray, List.getElem?_cons_zero, List.getElem?_cons_succ] at d0 d1 d2 d3 d4 d5 d6 d7
              gi_wp2_with (first
                | (refine ⟨trivial, ?_⟩; gi_at_call 24; refine (callsIn_wide.2 (HKD.out _)).mono ?_; rintro e w6 ⟨rfl, H6⟩; have HS6 : Hid _ := HS.out.later H6.out; have HB6 : Hid (Ob w6 wo.heap.size x) := HB.out.later H6.out; have g0 := cell_of HB6.out.fl 0; have g1 := cell_of HB6.out.fl 1; have g2 := cell_of HB6.out.fl 2; have g3 := cell_of HB6.out.fl 3; have k0 := cell_of HB6.out.op 0; have k1 := cell_of HB6.out.op 1; have k2 := cell_of HB6.out.op 2; have k3 := cell_of HB6.out.op 3; have k4 := cell_of HB6.out.op 4; have k5 := cell_of HB6.out.op 5; have k6 := cell_of HB6.out.op 6; have k7 := cell_of HB6.out.op 7; simp only [List.getElem?_toArray, List.getElem?_cons_zero, List.getElem?_cons_succ] at g0 g1 g2 g3 k0 k1 k2 k3 k4 k5 k6 k7)
                | (refine ⟨trivial, ?_⟩; gi_at_call 17; refine (callsIn_wide.2 (ap_doub0 HS6.out HB6.out (HS6.out.ops.ok x HXM.out) (by have := HN.out; omega) (by have := HLn.out.1; omega))).mono ?_; rintro e w7 ⟨r7, rfl, hr7, H7⟩))
              go_roundw
              case rel => exact ⟨rfl, 1, by omega, rfl, H7.out.2, .inr (.inl ⟨rfl, H7.out.1⟩)⟩
              case measure => simp [intOf]
            · have HKD : Hid (∀ W, Calls Try.prog 24 #[.agg #[.int .i64 x.knd, .int .i64 x.f.x.frm, .int .i64 x.f.x.to, .int .i64 x.f.x.at_, .slice x.f.a x.f.x.bytes.length x.f.c, .int .i64 x.n, .int .i64 x.bit, .int .i64 x.now]] W fun e w' => e = .returned (.int .i64 4) ∧ Hid (Below W.heap.size W w')) := fun W => by have := kind_any W x; rw [hkn] at this; exact this
              clear hkn
              have d0 := cell_of HB.out.op 0; have d1 := cell_of HB.out.op 1; have d2 := cell_of HB.out.op 2; have d3 := cell_of HB.out.op 3; have d4 := cell_of HB.out.op 4; have d5 := cell_of HB.out.op 5; have d6 := cell_of HB.out.op 6; have d7 := cell_of HB.out.op 7
              simp only [List.getElem?_toArray, List.getElem?_cons_zero, List.getElem?_cons_succ] at d0 d1 d2 d3 d4 d5 d6 d7
              gi_wp2_with (first
                | (refine ⟨trivial, ?_⟩; gi_at_call 24; refine (callsIn_wide.2 (HKD.out _)).mono ?_; rintro e w6 ⟨rfl, H6⟩; have HS6 : Hid _ := HS.out.later H6.out; have HB6 : Hid (Ob w6 wo.heap.size x) := HB.out.later H6.out; have g0 := cell_of HB6.out.fl 0; have g1 := cell_of HB6.out.fl 1; have g2 := cell_of HB6.out.fl 2; have g3 := cell_of HB6.out.fl 3; have k0 := cell_of HB6.out.op 0; have k1 := cell_of HB6.out.op 1; have k2 := cell_of HB6.out.op 2; have k3 := cell_of HB6.out.op 3; have k4 := cell_of HB6.out.op 4; have k5 := cell_of HB6.out.op 5; have k6 := cell_of HB6.out.op 6; have k7 := cell_of HB6.out.op 7; simp only [List.getElem?_toArray, List.getElem?_cons_zero, List.getElem?_cons_succ] at g0 g1 g2 g3 k0 k1 k2 k3 k4 k5 k6 k7)
                | (refine ⟨trivial, ?_⟩; gi_at_call 22; refine (callsIn_wide.2 (ap_cor0 HS6.out HB6.out (HS6.out.ops.ok x HXM.out) (by have := HN.out; omega) (by have := HLn.out.1; omega))).mono ?_; rintro e w7 ⟨v7, rfl, H7⟩))
              go_roundw
              case rel => exact ⟨rfl, 1, by omega, rfl, H7.out.2, .inr (.inl ⟨rfl, H7.out.1⟩)⟩
              case measure => simp [intOf]
          · have HS : Hid _ := HSo
            clear HSo HS'
            gi_wp2
            go_roundw
            case rel => exact ⟨rfl, 2, by omega, rfl, HB.out, .inr (.inr ⟨rfl, HS.out⟩)⟩
            case measure => simp [intOf]
          · have HS : Hid _ := HSo
            clear HSo HS'
            gi_wp2
            go_roundw
            case rel => exact ⟨rfl, k + 1, (n + 1), opL L (kndN x.knd) x, M, by omega, by go_num, ap_other HKK.out HS.out HOW.out⟩
            case measure => simp [intOf]; omega
    · have HB2 : Hid (∀ A B, Below wo.heap.size wo ((wo.alloc A).alloc B)) := fun A B => ((Below.refl _ wo).alloc (Nat.le_refl _) _).alloc (by simp) _
      have bx0 : ∀ A B, ((wo.alloc A).alloc B).cell? ⟨w.heap.size, 0, none⟩ = some (.int .i64 p) := fun A B => (ap_box HKK.out (HB2.out A B)).1
      have bx1 : ∀ A B, ((wo.alloc A).alloc B).cell? ⟨w.heap.size, 1, none⟩ = some (.int .i64 q) := fun A B => (ap_box HKK.out (HB2.out A B)).2
      have tk1 : True := trivial
      gi_wp2_with (have _t := tk1; refine ⟨trivial, ?_⟩; gi_at_call 21; refine (callsIn_wide.2 (ap_all HKK.out.s.lk (HB2.out _ _) HP.out.1 HP.out.2)).mono ?_; clear tk1; rintro e w6 ⟨g6, ad6, Y6, rfl, H6⟩)
      have HG : Hid (wo.heap.size + 2 ≤ w6.heap.size) := by have := H6.out.2.2.2.1.size; simp at this; show _ ≤ _; omega
      clear bx0 bx1
      refine range_box (α := Nat × FX) (Kp := KpU (fun _ => False) wo.heap.size) (T := Td Y6) (I := (fun ys W => G1 wo w6 W ys)) (Ix := fun _ _ _ => False) (encs := encA) (S := fun ys => ys.length = Y6.length) (N := Y6.length) (w0 := w6) (by decide) (gf := 43) rfl (enters_of Try.func43 (by kernel_rfl) rfl)
        (all1_tells (3 - 1) g6 Y6.length wo.heap.size (fun _ => False) ad6 Y6 (by decide) rfl H6.out.2.2.2.2.2 H6.out.2.2.2.2.1 w6 H6.out.1 H6.out.2.1)
        KpU.trans (fun W l o o' ho hc => KpU.put ho hc) (fun W o => KpU.of_below ((Below.refl _ W).alloc (Nat.le_refl _) _)) (Below.refl _ _) (fun _ => rfl)
        (G1.own (by have := HG.out; omega)) (fun _ _ _ _ _ h _ _ => h) Td.own (G1.start H6.out.2.2.2.1) (fun ys W h => h.ge) 17 32 (fun y => #[.int .i64 y.2.x.frm, .int .i64 y.2.x.to, .int .i64 y.2.x.at_, .slice y.2.a y.2.x.bytes.length y.2.c])
        ?assign1 ?body1 ?done1 ?stop1
      case assign1 =>
        intro l x W K hK
        dsimp only [encA] at hK ⊢
        gi_wp2
        first
          | (simp at hK; exact hK)
          | (simp [go_sem] at hK; exact hK)
      case body1 =>
        rintro l pre x f W HGo _ hf hbx hpl
        have HGE : Hid (wo.heap.size + 2 ≤ W.heap.size ∧ w6.heap.size ≤ W.heap.size) := ⟨by have := HG.out; have := HGo.ge; omega, HGo.ge⟩
        obtain ⟨av, cv, hv⟩ := HGo.var
        have HGb : Hid _ := HGo
        have HVb : Hid _ := hv
        have e1 := cell_of hv.var 0
        have e2 := frozen_of hv.var 0
        have f3 := cell_of hbx 3
        simp only [List.getElem?_toArray, List.getElem?_cons_zero, List.getElem?_cons_succ] at e1 f3
        obtain ⟨pn, hpn⟩ : ∃ pn, pre.length = pn := ⟨_, rfl⟩
        have HPN : Hid (pre.length = pn ∧ pn < 512) := ⟨hpn, by have := H6.out.2.2.2.2.2; omega⟩
        rw [hpn] at e1
        obtain ⟨i0, hi0, hz0, hz1, hz2⟩ := info_parts Try.info30
        have HI : Hid _ := hi0
        have e1' : ∀ A, (W.alloc A).cell? ⟨wo.heap.size, 0, none⟩ = some (.slice av pn cv) := fun A => cell_later ((Below.refl _ W).alloc (Nat.le_refl _) A) e1
        clear HGo hv hbx hpn hpl hi0
        dsimp only [encA]
        gi_wp2_with (gi_at_builtin; go_must (refine wpListIn_append_own _ rfl (.tmp 122) (.tmp 125) 57 rfl (wo.heap.size + 2) 30 i0 _ 1 24 Try.underlying57 HI.out hz0 hz1 hz2 rfl (by decide) (.slice av pn cv) pn (pre.map slv) rfl (by have := HVb.out.row; rw [HPN.out.1] at this; exact this.alloc _) ⟨W.heap.size, 0, none⟩ 1 1 [slv x] rfl rfl (made_one W _) (slv_one x) (by have := HPN.out.2; unfold maxLen; omega) (by have := HPN.out.2; omega) (by have := HGE.out; simp; omega) ?_); intro v' w1 ho hgr hnil; obtain ⟨av', cv', rfl⟩ := own_sl1 ho; have HO : Hid _ := ho; have HGR : Hid _ := hgr; have hvar1 := gather_var HVb.out HPN.out.1 (by have := HG.out; omega) hgr; have e3 := cell_of hvar1 0; have e4 := frozen_of hvar1 0; simp only [List.getElem?_toArray, List.getElem?_cons_zero] at e3; clear ho hgr hnil hvar1)
        have HN1 := G1.next HGb.out HVb.out (by rw [HPN.out.1]; exact HO.out) (by rw [HPN.out.1]; exact HGR.out)
        exact HN1
      case done1 =>
        rintro D zs W hD hzl hTd hG1 hDf
        obtain ⟨az, cz, hva⟩ := hG1.var
        have HD1 : Hid (W.heap[D]? = some (.deferred (some [])) ∧ w6.heap.size ≤ D ∧ zs.length = Y6.length) := ⟨hDf, hD, hzl⟩
        have HG1 : Hid (G1 wo w6 W zs ∧ Rw W wo.heap.size (wo.heap.size + 2) zs az cz ∧ Td Y6 zs W) := ⟨hG1, hva, hTd⟩
        have bx0 := (ap_box HKK.out hG1.bel).1
        have bx1 := (ap_box HKK.out hG1.bel).2
        clear hva hG1 hTd hDf hD hzl
        have tk2 : True := trivial
        gi_wp2_with (have _t := tk2; refine ⟨trivial, ?_⟩; gi_at_call 21; refine (callsIn_wide.2 (ap_all HKK.out.s.lk' HG1.out.1.bel HP.out.1 HP.out.2)).mono ?_; clear tk2; rintro e w8 ⟨g8, ad8, Y8, rfl, H8⟩)
        have HDl : Hid (D < w8.heap.size ∧ w8.heap[D]? = some (.deferred (some []))) := ⟨(Array.getElem?_eq_some_iff.1 (old_block H8.out.2.2.2.1 HD1.out.1)).1, old_block H8.out.2.2.2.1 HD1.out.1⟩
        have HG2 : Hid (G2 wo w8 w8 Y6 zs az cz [] ∧ w8.heap[D]? = some (.deferred (some []))) := ⟨G2.start HG1.out.1 HG1.out.2.1 HG1.out.2.2 H8.out.2.2.2.1, HDl.out.2⟩
        have HG : Hid (wo.heap.size + 2 ≤ w8.heap.size) := HG2.out.1.lt
        clear bx0 bx1
        refine range_box (α := Nat × FX) (Kp := KpU (fun _ => False) wo.heap.size) (T := Td Y8) (I := (fun ys W => G2 wo w8 W Y6 zs az cz ys ∧ W.heap[D]? = some (.deferred (some [])))) (Ix := fun _ _ _ => False) (encs := encA) (S := fun ys => ys.length = Y8.length) (N := Y8.length) (w0 := w8) (by decide) (gf := 43) rfl (enters_of Try.func43 (by kernel_rfl) rfl)
          (all1_tells (3 - 1) g8 Y8.length wo.heap.size (fun _ => False) ad8 Y8 (by decide) rfl H8.out.2.2.2.2.2 H8.out.2.2.2.2.1 w8 H8.out.1 H8.out.2.1)
          KpU.trans (fun W l o o' ho hc => KpU.put ho hc) (fun W o => KpU.of_below ((Below.refl _ W).alloc (Nat.le_refl _) _)) (Below.refl _ _) (fun _ => rfl)
          (fun ys W W' row h hg hr => ⟨G2.own (B := w8.heap.size) (by have := HG.out; omega) ys W W' row h.1 hg hr, (hg.block D (Array.getElem?_eq_some_iff.1 h.2).1 (fun e => by have := (hr D e.symm).1; have := HDl.out; omega)).trans h.2⟩) (fun _ _ _ _ _ h _ _ => h) Td.own HG2.out (fun ys W h => h.1.ge) 19 32 (fun y => #[.int .i64 y.2.x.frm, .int .i64 y.2.x.to, .int .i64 y.2.x.at_, .slice y.2.a y.2.x.bytes.length y.2.c])
          ?assign2 ?body2 ?done2 ?stop2
        case assign2 =>
          intro l x W K hK
          dsimp only [encA] at hK ⊢
          gi_wp2
          first
            | (simp at hK; exact hK)
            | (simp [go_sem] at hK; exact hK)
        case body2 =>
          rintro l pre x f W HGo _ hf hbx hpl
          have HGE : Hid (wo.heap.size + 2 ≤ W.heap.size ∧ w8.heap.size ≤ W.heap.size) := ⟨by have := HG.out; have := HGo.1.ge; omega, HGo.1.ge⟩
          obtain ⟨av, cv, hv⟩ := HGo.1.var
          have HGb : Hid _ := HGo
          have HVb : Hid _ := hv
          have e1 := cell_of hv.var 0
          have e2 := frozen_of hv.var 0
          have f3 := cell_of hbx 3
          simp only [List.getElem?_toArray, List.getElem?_cons_zero, List.getElem?_cons_succ] at e1 f3
          obtain ⟨pn, hpn⟩ : ∃ pn, pre.length = pn := ⟨_, rfl⟩
          have HPN : Hid (pre.length = pn ∧ pn < 512) := ⟨hpn, by have := H8.out.2.2.2.2.2; omega⟩
          rw [hpn] at e1
          obtain ⟨i0, hi0, hz0, hz1, hz2⟩ := info_parts Try.info30
          have HI : Hid _ := hi0
          have e1' : ∀ A, (W.alloc A).cell? ⟨wo.heap.size + 1, 0, none⟩ = some (.slice av pn cv) := fun A => cell_later ((Below.refl _ W).alloc (Nat.le_refl _) A) e1
          clear HGo hv hbx hpn hpl hi0
          dsimp only [encA]
          gi_wp2_with (gi_at_builtin; go_must (refine wpListIn_append_own _ rfl (.tmp 135) (.tmp 138) 57 rfl w8.heap.size 30 i0 _ 1 24 Try.underlying57 HI.out hz0 hz1 hz2 rfl (by decide) (.slice av pn cv) pn (pre.map slv) rfl (by have := HVb.out.row; rw [HPN.out.1] at this; exact this.alloc _) ⟨W.heap.size, 0, none⟩ 1 1 [slv x] rfl rfl (made_one W _) (slv_one x) (by have := HPN.out.2; unfold maxLen; omega) (by have := HPN.out.2; omega) (by have := HGE.out; simp; omega) ?_); intro v' w1 ho hgr hnil; obtain ⟨av', cv', rfl⟩ := own_sl1 ho; have HO : Hid _ := ho; have HGR : Hid _ := hgr; have hvar1 := gather_var HVb.out HPN.out.1 (by have := HG.out; omega) hgr; have e3 := cell_of hvar1 0; have e4 := frozen_of hvar1 0; simp only [List.getElem?_toArray, List.getElem?_cons_zero] at e3; clear ho hgr hnil hvar1)
          have HN1 := G2.next HGb.out.1 HVb.out (by rw [HPN.out.1]; exact HO.out) (by rw [HPN.out.1]; exact HGR.out)
          exact ⟨HN1.1, HN1.2.1, HN1.2.2.1, HN1.2.2.2 _ _ HGb.out.2 rfl⟩
        case done2 =>
          rintro D2 ys W2 hD2 hyl hTd2 hG2 hDf2
          obtain ⟨av, cv, hvv⟩ := hG2.1.var
          have hFn := fn_of hG2.1 hvv HKK.out.s.lk' hTd2 HD1.out.2.2 hyl H6.out.2.2.1 H8.out.2.2.1 HKK.out.eq HKK.out.all hG2.2 hDf2
          obtain ⟨mm, hmm⟩ : ∃ mm, mm = ys.length := ⟨_, rfl⟩
          rw [← hmm] at hFn
          have HFN : Hid _ := hFn
          have HM5 : Hid (mm ≤ 512) := by show mm ≤ 512; rw [hmm, hyl]; exact H8.out.2.2.2.2.2
          have ca := cell_of hFn.a.var 0
          have cb := cell_of hFn.b.var 0
          simp only [List.getElem?_toArray, List.getElem?_cons_zero] at ca cb
          rw [hFn.lz] at ca
          rw [hFn.ly] at cb
          have HDD : Hid (D < D2 ∧ w.heap.size ≤ D) := ⟨by have := HDl.out.1; omega, by have q1 := HD1.out.2.1; have q2 := H6.out.2.2.2.1.size; have q3 := HKK.out.s.bel.size; rw [World.size_alloc, World.size_alloc] at q2; omega⟩
          clear hFn hG2 hDf2 hTd2 hyl hD2 hvv hmm
          have HLN : Hid (∀ W, Below W2.heap.size W2 W → Calls Try.prog 18 #[.pointer (some ⟨lb', 0, none⟩)] W fun e w' => e = .returned (.int .i64 mm) ∧ Hid (Below W.heap.size W w')) := fun W hb => by
            have := len_any W No lb' mb' n M (HFN.out.lk.later hb)
            rw [HFN.out.lM] at this
            exact this
          gi_wp2
          gi_cut [151] from 140 (fun v wc => v = .bool false ∧ Hid (Fn wo wc lb' mb' n mm D D2 M zs ys az av cz cv w8.heap.size))
          case first =>
            refine still_in ?_
            refine wpIn_wide.2 ?_
            go_region_law (first
              | (go_simp; go_at_call 18; refine (HLN.out _ (Below.refl _ _).drew).mono ?_; rintro e w9 ⟨rfl, H9⟩; have HF9 : Hid _ := HFN.out.later (below_of (Below.refl _ W2).drew H9.out); have cb9 := cell_of HF9.out.b.var 0; simp only [List.getElem?_toArray, List.getElem?_cons_zero] at cb9; rw [HF9.out.ly] at cb9))
            all_goals gi_wp2
            all_goals gi_meet
            all_goals exact ⟨by simp, HF9.out⟩
          case rest =>
            obtain ⟨rfl, HFC⟩ := hcut
            have ca2 := cell_of HFC.out.a.var 0
            simp only [List.getElem?_toArray, List.getElem?_cons_zero] at ca2
            rw [HFC.out.lz] at ca2
            clear ca cb HLN
            gi_wp2
            gi_loopw [154] (fun i wr => ∃ k : Nat, k ≤ mm ∧ i = .int .i64 k ∧ Hid (Fn wo wr lb' mb' n mm D D2 M zs ys az av cz cv w8.heap.size)) (fun i _ => mm - (intOf i).toNat)
            case atStart => exact ⟨0, Nat.zero_le _, rfl, HFC.out⟩
            case round =>
              obtain ⟨j, hj, rfl, HF⟩ := hrel
              by_cases hjl : j < mm
              · have HJL : Hid (j < mm) := hjl
                have hm5 := HM5.out
                obtain ⟨ga, rfl, ta, _⟩ := rw_cell HF.out.a j (by have := HF.out.lz; omega)
                obtain ⟨gb, rfl, tb, _⟩ := rw_cell HF.out.b j (by have := HF.out.ly; omega)
                obtain ⟨z, hz⟩ : ∃ z, zs[j]'(by have := HF.out.lz; omega) = z := ⟨_, rfl⟩
                obtain ⟨y, hy⟩ : ∃ y, ys[j]'(by have := HF.out.ly; omega) = y := ⟨_, rfl⟩
                obtain ⟨q1, q2, q3⟩ := HF.out.rows j z y (by rw [← hz]; exact List.getElem?_eq_getElem _) (by rw [← hy]; exact List.getElem?_eq_getElem _)
                rw [hz] at ta
                rw [hy] at tb
                unfold slv at ta tb
                rw [q1] at ta q2
                have HRR : Hid (Row wr z.2.a y.2.x.bytes ∧ Row wr y.2.a y.2.x.bytes) := ⟨q2, q3⟩
                have ca3 := cell_of HF.out.a.var 0
                have cb3 := cell_of HF.out.b.var 0
                simp only [List.getElem?_toArray, List.getElem?_cons_zero] at ca3 cb3
                rw [HF.out.lz] at ca3
                rw [HF.out.ly] at cb3
                clear q1 q2 q3 hz hy ca2
                gi_wp2
                refine still_in ?_
                refine wpIn_wide.2 ?_
                go_region_law (go_simp; go_at_call 25; refine (equal_same _ _ _ _ _ y.2.x.bytes rfl _ (HRR.out.1.later (Below.refl _ _).drew) (HRR.out.2.later (Below.refl _ _).drew)).mono ?_; rintro e w' ⟨rfl, rfl⟩)
                all_goals
                  gi_wp2
                  go_roundw
                  case rel => exact ⟨j + 1, HJL.out, by go_num, HF.out.later (Below.refl _ _).drew⟩
                  case measure => have := HJL.out; simp [intOf]; omega
              · have hDD : D ≠ D2 := by have := HDD.out; omega
                have HE : Hid (Below w.heap.size w wr) := HKK.out.s.bel.trans (HF.out.bel.mono HKK.out.s.bel.size)
                gi_wp2
                refine ⟨by simp, .inl ⟨_, _, rfl, run_takeDeferred HF.out.d2, ?_⟩⟩
                have d1' : (wr.putObj D2 (.deferred none)).heap[D]? = some (.deferred (some [])) := (World.putObj_heap_other hDD).trans HF.out.d1
                refine ⟨by simp, .inl ⟨_, _, rfl, run_takeDeferred d1', ?_⟩⟩
                exact ⟨_, results_tmp rfl _ _ _, rfl, (HE.out.trans (belowK_b (w := w) (Nat.le_refl _) wr D2 _ _ (by have := HDD.out; omega) HF.out.d2 rfl rfl)).trans (belowK_b (w := w) (Nat.le_refl _) _ D _ _ (by have := HDD.out; omega) d1' rfl rfl)⟩
        case stop2 =>
          rintro D c pre W _ h _
          exact h.elim
      case stop1 =>
        rintro D c pre W _ h _
        exact h.elim
end Go.Proofs.Ytopfpdkknfjgoaa
