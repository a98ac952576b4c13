/- gaps: the rows of a block that are not claimed. -/
import Derived.Test.YtnjcaolkcmpdcaaUPcs
namespace Go.Proofs.Ytnjcaolkcmpdcaa
open Go.RowKit Go.Shelf
set_option linter.unusedVariables false
/-- where the first k claims end. -/
def atG (G : List (Int × Int)) (k : Nat) : Int := if k = 0 then 0 else (G.getD (k - 1) (0, 0)).1 + (G.getD (k - 1) (0, 0)).2
theorem atG_succ {G : List (Int × Int)} {k : Nat} (h : k < G.length) : atG G (k + 1) = G[k].1 + G[k].2 := by
  unfold atG
  rw [if_neg (by omega), Nat.add_sub_cancel, List.getD_eq_getElem?_getD, List.getElem?_eq_getElem h]
  rfl
/-- the gaps ahead of the first k claims' ends. -/
def gpG (G : List (Int × Int)) : Nat → List (Nat × Nat)
  | 0 => []
  | k + 1 => gpG G k ++ (if atG G k < (G.getD k (0, 0)).1 then [((atG G k).toNat, ((G.getD k (0, 0)).1 - atG G k).toNat)] else [])
/-- all gaps of a block of N bytes. -/
def gpF (G : List (Int × Int)) (N : Nat) : List (Nat × Nat) := gpG G G.length ++ (if atG G G.length < (N : Int) then [((atG G G.length).toNat, ((N : Int) - atG G G.length).toNat)] else [])
theorem gpG_pre (G : List (Int × Int)) : ∀ {k m : Nat}, k ≤ m → gpG G k <+: gpG G m
  | k, 0, h => by obtain rfl : k = 0 := by omega
                  exact List.prefix_refl _
  | k, m + 1, h => by
    by_cases e : k = m + 1
    · rw [e]
      exact List.prefix_refl _
    · exact (gpG_pre G (k := k) (m := m) (by omega)).trans (List.prefix_append _ _)
theorem gpG_all (G : List (Int × Int)) (N : Nat) {k : Nat} (h : k ≤ G.length) : gpG G k <+: gpF G N := (gpG_pre G h).trans (List.prefix_append _ _)
theorem gpG_len (G : List (Int × Int)) : ∀ k, (gpG G k).length ≤ k
  | 0 => Nat.le_refl _
  | k + 1 => by
    have := gpG_len G k
    rw [gpG, List.length_append]
    split <;> simp <;> omega
theorem gpG_succ {G : List (Int × Int)} {k : Nat} (h : k < G.length) : gpG G (k + 1) = gpG G k ++ (if atG G k < G[k].1 then [((atG G k).toNat, (G[k].1 - atG G k).toNat)] else []) := by
  rw [gpG, List.getD_eq_getElem?_getD, List.getElem?_eq_getElem h]
  rfl
/-- what a block's claims may be, as far as gaps go. -/
structure GpO (G : List (Int × Int)) (N : Nat) : Prop where
  at_ : ∀ k, k ≤ G.length → 0 ≤ atG G k ∧ atG G k ≤ 512
  cl : ∀ k (h : k < G.length), 0 ≤ G[k].1 ∧ G[k].1 ≤ 512 ∧ in64 G[k].2
  n : N ≤ 512
  len : G.length ≤ 600
theorem rowC_far {Far : World → Nat → Prop} {Kp : World → World → Prop} {S : Nat → Prop} {W W' : World} {ag : Option Addr} {G : List (Int × Int)} (hF : FarO Far Kp S) (h : RowC W ag G) (hk : Kp W W') (hn : ∀ b o, ag = some ⟨b, o, none⟩ → 0 < G.length → Far W b) : RowC W' ag G := by
  refine ⟨h.1, fun h0 => ?_⟩
  obtain ⟨b, o, rfl, hc⟩ := h.2 h0
  have keep : ∀ {i : Nat} {u : Value}, W.cell? ⟨b, i, none⟩ = some u → W'.cell? ⟨b, i, none⟩ = some u := fun {i u} hu => by
    obtain ⟨C, t, fr, he⟩ := cell_is hu
    have := (hF.kp hk (hn b o rfl h0) he).1
    unfold World.cell? at hu ⊢
    rw [he] at hu
    rw [this]
    exact hu
  exact ⟨b, o, rfl, fun i hi => ⟨keep (hc i hi).1, keep (hc i hi).2⟩⟩
/-- what stands between the rounds. -/
structure GpI (Far : World → Nat → Prop) (bg : Nat) (s : Sn) (p : Pt) (G : List (Int × Int)) (W : World) : Prop where
  box : W.heap[bg]? = some (snc s p)
  row : RowC W p.ag G
  fb : Far W bg
  fg : ∀ b o, p.ag = some ⟨b, o, none⟩ → 0 < G.length → Far W b
theorem GpI.later {Far : World → Nat → Prop} {Kp : World → World → Prop} {bg : Nat} {s : Sn} {p : Pt} {G : List (Int × Int)} {W W' : World} (h : GpI Far bg s p G W) (hF : FarO Far Kp (fun _ => False)) (hb : Below W.heap.size W W') : GpI Far bg s p G W' :=
  ⟨old_block hb h.box, h.row.later hb, hF.off h.fb (Off.of_below hb), fun b o e h0 => hF.off (h.fg b o e h0) (Off.of_below hb)⟩
theorem GpI.kp {Far : World → Nat → Prop} {Kp : World → World → Prop} {bg : Nat} {s : Sn} {p : Pt} {G : List (Int × Int)} {W W' : World} (h : GpI Far bg s p G W) (hF : FarO Far Kp (fun _ => False)) (hk : Kp W W') (hc : ∀ b o, p.ag = some ⟨b, o, none⟩ → 0 < G.length → ∃ C t fr, W.heap[b]? = some (.cells C t fr)) : GpI Far bg s p G W' :=
  ⟨(hF.kp hk h.fb h.box).1, rowC_far hF h.row hk h.fg, (hF.kp hk h.fb h.box).2, fun b o e h0 => by obtain ⟨C, t, fr, he⟩ := hc b o e h0; exact (hF.kp hk (h.fg b o e h0) he).2⟩
attribute [local go_sem] Oper.semAt_some
set_option maxRecDepth 20000 in
set_option maxHeartbeats 4000000 in
theorem gp1_in (n l bg : Nat) (s : Sn) (p : Pt) (hn : 1 ≤ n) (hg : GpO s.got s.bgn.blk.length) (Far : World → Nat → Prop) (Kp : World → World → Prop) (hF : FarO Far Kp (fun _ => False)) (J : List (Nat × Nat) → World → Prop) (W : World) (hJF : ∀ pre W1 O, J pre W1 → Far (W1.alloc O) W1.heap.size) (hJ : Stb W.heap.size (fun _ => False) J)
    (hY : ∀ pre x W1, J pre W1 → pre ++ [x] <+: gpF s.got s.bgn.blk.length → pre.length < s.got.length + 1 → YieldAt Fence.wide (n - 1) Try.prog l (encP x) W1 fun e W' => e = .returned (.bool true) ∧ J (pre ++ [x]) W' ∧ Kp W1 W' ∧ KeepsFrom W.heap.size W1 W')
    (hi : GpI Far bg s p s.got W) (h0 : J [] W) :
    CallsIn Fence.wide n Try.prog 70 #[.func (.yield l) #[] #[], .pointer (some ⟨bg, 0, none⟩)] W fun e W' => (∃ v, e = .returned v) ∧ ∃ xs, xs = gpF s.got s.bgn.blk.length ∧ xs <+: gpF s.got s.bgn.blk.length ∧ J xs W' := by
  obtain ⟨N, hN⟩ : ∃ N, s.bgn.blk.length = N := ⟨_, rfl⟩
  obtain ⟨G, hG⟩ : ∃ G, s.got = G := ⟨_, rfl⟩
  have HB : Hid (∀ W' : World, W'.heap[bg]? = some (snc s p) → W'.cell? ⟨bg, 6, none⟩ = some (.slice p.ag G.length p.cg) ∧ W'.cell? ⟨bg, 2, none⟩ = some (.slice p.ab N p.cb)) := fun W' h => by
    rw [← hN, ← hG]
    refine ⟨?_, ?_⟩
    · rw [cell_of h]; rfl
    · rw [cell_of h]; rfl
  rw [hN, hG] at hg hY ⊢
  rw [hG] at hi
  have HCC : Hid (∀ W' : World, RowC W' p.ag G → ∀ b o, p.ag = some ⟨b, o, none⟩ → 0 < G.length → ∃ C t fr, W'.heap[b]? = some (.cells C t fr)) := fun W' h b o e h0 => by
    obtain ⟨b', o', e', hc⟩ := h.2 h0
    rw [e] at e'
    cases e'
    exact cell_is (hc 0 h0).1
  have HY : Hid (∀ pre x W1, J pre W1 → pre ++ [x] <+: gpF G N → pre.length < G.length + 1 → YieldAt Fence.wide (n - 1) Try.prog l (encP x) W1 fun e W' => e = .returned (.bool true) ∧ J (pre ++ [x]) W' ∧ Kp W1 W' ∧ KeepsFrom W.heap.size W1 W') := hY
  have H0 : Hid (J [] W ∧ GpI Far bg s p G W) := ⟨h0, hi⟩
  have HJ : Hid (Stb W.heap.size (fun _ => False) J) := hJ
  have HJF : Hid (∀ pre W1 O, J pre W1 → Far (W1.alloc O) W1.heap.size) := hJF
  have HFO : Hid (FarO Far Kp (fun _ => False)) := hF
  have HG : Hid (GpO G N) := hg
  have hlen := hg.len
  have hn512 := hg.n
  obtain ⟨b6, _⟩ := HB.out W hi.box
  clear hY h0 hJ hi hg hN hG hJF hF
  refine callsIn_of_wp Try.func70 rfl trivial ?_ rfl
  simp only [Try.ntmps70, List.size_toArray, List.length_cons, List.length_nil, Nat.reduceAdd, Nat.reduceSub, Array.replicate_succ, Array.replicate_zero, List.push_toArray, List.append_toArray, List.nil_append, List.cons_append]
  gi_wp2
  gi_loopw [3, 9] (fun at_ i wr => ∃ k : Nat, k ≤ G.length ∧ i = .int .i64 k ∧ at_ = .int .i64 (atG G k) ∧ Hid (J (gpG G k) wr ∧ GpI Far bg s p G wr)) (fun _ i _ => G.length - (intOf i).toNat)
  case atStart => exact ⟨0, by omega, rfl, rfl, H0.out⟩
  case round =>
    obtain ⟨k, hk, rfl, rfl, HK⟩ := hrel
    by_cases hlt : k < G.length
    · have hki : (k : Int) < (G.length : Int) := by omega
      obtain ⟨b, o, hag, hc⟩ := HK.out.2.row.2 (by omega)
      obtain ⟨c1, c2⟩ := hc k hlt
      obtain ⟨a1, a2⟩ := HG.out.at_ k (by omega)
      obtain ⟨a3, a4, a5⟩ := HG.out.cl k hlt
      have HSU : Hid (gpG G (k + 1) = gpG G k ++ (if atG G k < G[k].1 then [((atG G k).toNat, (G[k].1 - atG G k).toNat)] else [])) := gpG_succ hlt
      have HAT : Hid (atG G (k + 1) = G[k].1 + G[k].2) := atG_succ hlt
      obtain ⟨a6, a7⟩ := HG.out.at_ (k + 1) (by omega)
      rw [HAT.out] at a6 a7
      obtain ⟨A, hA⟩ : ∃ A : Nat, atG G k = A := ⟨(atG G k).toNat, by omega⟩
      obtain ⟨X, hX⟩ : ∃ X : Nat, G[k].1 = X := ⟨G[k].1.toNat, by omega⟩
      obtain ⟨Y, hY⟩ : ∃ Y, G[k].2 = Y := ⟨_, rfl⟩
      rw [hX] at c1 a3 a4 a6 a7 HSU HAT
      rw [hY] at c2 a6 a7 HAT
      rw [hA] at a1 a2 HSU ⊢
      have hpre : gpG G (k + 1) <+: gpF G N := gpG_all G N (by omega)
      have hlen2 := gpG_len G k
      have hw2 : IntKind.i64.wrap ((X : Int) + Y) = (X : Int) + Y := by rw [IntKind.wrap_i64]; omega
      have HAX : Hid (atG G (k + 1) = (X : Int) + Y) := HAT.out
      have hb : ∀ O, Below wr.heap.size wr (wr.alloc O) := fun O => (Below.refl _ wr).alloc (Nat.le_refl _) _
      have HJ1 : Hid (∀ O, J (gpG G k) (wr.alloc O) ∧ GpI Far bg s p G (wr.alloc O) ∧ Far (wr.alloc O) wr.heap.size) := fun O => ⟨own_below HJ.out.1 HK.out.1 (hb O), HK.out.2.later HFO.out (hb O), HJF.out _ _ _ HK.out.1⟩
      have HBX : Hid ((wr.alloc (.cells #[.int .i64 (X : Int), .int .i64 Y] 56)).heap[wr.heap.size]? = some (.cells #[.int .i64 (X : Int), .int .i64 Y] 56 (0, 0))) := heap_alloc_new wr _
      have x0 := cell_of HBX.out 0
      have x1 := cell_of HBX.out 1
      simp only [List.getElem?_toArray, List.getElem?_cons_zero, List.getElem?_cons_succ] at x0 x1
      rw [hag]
      by_cases hax : A < X
      · obtain ⟨D, hD⟩ : ∃ D : Nat, X - A = D := ⟨_, rfl⟩
        have hax' : (A : Int) < (X : Int) := by omega
        have hwD : IntKind.i64.wrap ((X : Int) - (A : Int)) = (D : Int) := by rw [IntKind.wrap_i64]; omega
        have hsu : gpG G (k + 1) = gpG G k ++ [(A, D)] := by rw [HSU.out, if_pos hax']; congr 3 <;> omega
        obtain ⟨fn, tmps, assign, body, hyy, hR⟩ := HY.out (gpG G k) (A, D) _ (HJ1.out (.cells #[.int .i64 (X : Int), .int .i64 Y] 56)).1 (by rw [← hsu]; exact hpre) (by omega)
        have HR : Hid (RoundIn Fence.wide (n - 1) Try.prog l fn tmps assign body _ _) := hR
        dsimp only [encP] at hyy
        have HSV : Hid (gpG G (k + 1) = gpG G k ++ [(A, D)]) := hsu
        clear hR hsu hD hb hpre HSU HAT hA hX hY hc
        gi_wp2
        refine HR.out.mono ?_
        rintro e W3 ⟨rfl, hJ3, hk3, _⟩
        have hx3 := (HFO.out.kp hk3 (HJ1.out _).2.2 HBX.out).1
        have y0 := cell_of hx3 0
        have y1 := cell_of hx3 1
        simp only [List.getElem?_toArray, List.getElem?_cons_zero, List.getElem?_cons_succ] at y0 y1
        have HQ : Hid (J (gpG G (k + 1)) W3 ∧ GpI Far bg s p G W3) := ⟨by rw [HSV.out]; exact hJ3, (HJ1.out _).2.1.kp HFO.out hk3 (HCC.out _ (HJ1.out _).2.1.row)⟩
        clear hJ3 hk3 hx3 x0 x1 c1 c2
        gi_wp2
        go_roundw
        case rel => exact ⟨k + 1, by omega, by go_num, by rw [HAX.out], HQ⟩
        case measure => simp [intOf]; omega
      · have hax' : ¬ (A : Int) < (X : Int) := by omega
        have HQ : Hid (J (gpG G (k + 1)) (wr.alloc (.cells #[.int .i64 (X : Int), .int .i64 Y] 56)) ∧ GpI Far bg s p G (wr.alloc (.cells #[.int .i64 (X : Int), .int .i64 Y] 56))) := ⟨by rw [HSU.out, if_neg hax', List.append_nil]; exact (HJ1.out _).1, (HJ1.out _).2.1⟩
        clear hb hpre HSU HAT hA hX hY hc
        gi_wp2
        refine ⟨fun _ h => (by cases h), ?_⟩
        gi_wp2
        go_roundw
        case rel => exact ⟨k + 1, by omega, by go_num, by rw [HAX.out], HQ⟩
        case measure => simp [intOf]; omega
    · obtain rfl : k = G.length := by omega
      obtain ⟨a1, a2⟩ := HG.out.at_ G.length (Nat.le_refl _)
      obtain ⟨A, hA⟩ : ∃ A : Nat, atG G G.length = A := ⟨(atG G G.length).toNat, by omega⟩
      rw [hA]
      have b2 := (HB.out wr HK.out.2.box).2
      have hlen2 := gpG_len G G.length
      by_cases han : A < N
      · obtain ⟨D, hD⟩ : ∃ D : Nat, N - A = D := ⟨_, rfl⟩
        have han' : (A : Int) < (N : Int) := by omega
        have hwD : IntKind.i64.wrap ((N : Int) - (A : Int)) = (D : Int) := by rw [IntKind.wrap_i64]; omega
        have HPF : Hid (gpF G N = gpG G G.length ++ [(A, D)]) := by
          show _ = _
          unfold gpF
          rw [hA, if_pos han']
          congr 3 <;> omega
        obtain ⟨fn, tmps, assign, body, hyy, hR⟩ := HY.out (gpG G G.length) (A, D) wr HK.out.1 (by rw [HPF.out]; exact List.prefix_refl _) (by omega)
        have HR : Hid (RoundIn Fence.wide (n - 1) Try.prog l fn tmps assign body _ _) := hR
        dsimp only [encP] at hyy
        clear hR hD hA
        gi_wp2
        refine HR.out.mono ?_
        rintro e W3 ⟨rfl, hJ3, _⟩
        have H3 : Hid (J (gpF G N) W3) := by rw [HPF.out]; exact hJ3
        clear hJ3
        gi_wp2
        go_end0
        exact ⟨⟨_, rfl⟩, _, rfl, List.prefix_refl _, H3.out⟩
      · have han' : ¬ (A : Int) < (N : Int) := by omega
        have HPF : Hid (gpF G N = gpG G G.length) := by
          show _ = _
          unfold gpF
          rw [hA, if_neg han', List.append_nil]
        have H3 : Hid (J (gpF G N) wr) := by rw [HPF.out]; exact HK.out.1
        gi_wp2
        go_end0
        exact ⟨⟨_, rfl⟩, H3.out⟩
theorem gp_hands (n bg : Nat) (s : Sn) (p : Pt) (hn : 1 ≤ n) (hg : GpO s.got s.bgn.blk.length) (Far : World → Nat → Prop) (Kp : World → World → Prop) (hF : FarO Far Kp (fun _ => False)) (w : World) (hi : GpI Far bg s p s.got w) :
    HandsB n Try.prog 70 #[.pointer (some ⟨bg, 0, none⟩)] encP Kp (fun ys => ys <+: gpF s.got s.bgn.blk.length) (fun ys => ys = gpF s.got s.bgn.blk.length) (s.got.length + 1) (fun _ => False) (fun W => ∀ O, Far (W.alloc O) W.heap.size) w :=
  fun l J W hW hJ hX hY h0 => gp1_in n l bg s p hn hg Far Kp hF J W (fun pre W1 O h => hX pre W1 h O) hJ hY (hi.later hF hW) h0
theorem gp_fn (s : Sn) (p : Pt) (w : World) : Calls Try.prog 38 #[snv s p] w fun e w' => e = .returned (.func (.func 70) #[] #[.pointer (some ⟨w.heap.size, 0, none⟩)]) ∧ w' = w.alloc (snc s p) := by
  go_enter Try.func38, Try.ntmps38
  go_wp2
  go_ret
  exact ⟨rfl, rfl⟩
end Go.Proofs.Ytnjcaolkcmpdcaa
