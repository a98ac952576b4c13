/- pieces: a row in rows that a segment has room for. -/
import Derived.Test.YtnjcaolkcmpdcaaUNest
namespace Go.Proofs.Ytnjcaolkcmpdcaa
open Go.RowKit Go.Shelf
set_option linter.unusedVariables false
/-- the first k pieces of a row. -/
def pcK (o : Nat) (k : Nat) : List (Nat × Nat) := (List.range k).map fun i => (o + 100 * i, 100)
/-- all pieces of a row. -/
def pcF (o n : Nat) : List (Nat × Nat) := pcK o ((n - 1) / 100) ++ [(o + 100 * ((n - 1) / 100), n - 100 * ((n - 1) / 100))]
theorem pcK_succ (o k : Nat) : pcK o (k + 1) = pcK o k ++ [(o + 100 * k, 100)] := by
  unfold pcK
  rw [List.range_succ, List.map_append]
  rfl
theorem pcK_len (o k : Nat) : (pcK o k).length = k := by simp [pcK]
theorem pcF_len (o n : Nat) : (pcF o n).length = (n - 1) / 100 + 1 := by simp [pcF, pcK_len]
theorem pcK_pre (o : Nat) : ∀ {k m : Nat}, k ≤ m → pcK o k <+: pcK o m
  | k, 0, h => by obtain rfl : k = 0 := by omega
                  exact List.prefix_refl _
  | k, m + 1, h => by
    by_cases e : k = m + 1
    · rw [e]
      exact List.prefix_refl _
    · rw [pcK_succ]
      exact (pcK_pre o (k := k) (m := m) (by omega)).trans (List.prefix_append _ _)
theorem pcK_all (o n : Nat) {k : Nat} (h : k ≤ (n - 1) / 100) : pcK o k <+: pcF o n := (pcK_pre o h).trans (List.prefix_append _ _)
theorem pcF_in {o n : Nat} (hn : 1 ≤ n) {x : Nat × Nat} (h : x ∈ pcF o n) : o ≤ x.1 ∧ 1 ≤ x.2 ∧ x.2 ≤ 100 ∧ x.1 + x.2 ≤ o + n := by
  unfold pcF at h
  rcases List.mem_append.1 h with h | h
  · unfold pcK at h
    obtain ⟨i, hi, rfl⟩ := List.mem_map.1 h
    have := List.mem_range.1 hi
    simp only
    omega
  · rw [List.mem_singleton] at h
    subst h
    simp only
    omega
def encP (x : Nat × Nat) : Array Value := #[.agg #[.int .i64 (x.1 : Nat), .int .i64 (x.2 : Nat)]]
/-- the number in a cell. -/
def cellN (w : World) (b i : Nat) : Nat := match w.cell? ⟨b, i, none⟩ with | some (.int _ x) => x.toNat | _ => 0
theorem cellN_of {w : World} {b i : Nat} {k : IntKind} {x : Int} (h : w.cell? ⟨b, i, none⟩ = some (.int k x)) : cellN w b i = x.toNat := by unfold cellN; rw [h]
abbrev clB (o n : Nat) : Obj := .cells #[.int .i64 (o : Nat), .int .i64 (n : Nat)] 56
theorem set_row {W : World} {b o n o' n' : Nat} (h : W.heap[b]? = some (.cells #[.int .i64 (o : Nat), .int .i64 (n : Nat)] 56 (0, 0))) :
    ((W.setCell ⟨b, 0, none⟩ (.int .i64 (o' : Nat))).setCell ⟨b, 1, none⟩ (.int .i64 (n' : Nat))).heap[b]? = some (.cells #[.int .i64 (o' : Nat), .int .i64 (n' : Nat)] 56 (0, 0)) ∧ Off (fun k => k = b) W ((W.setCell ⟨b, 0, none⟩ (.int .i64 (o' : Nat))).setCell ⟨b, 1, none⟩ (.int .i64 (n' : Nat))) := by
  refine ⟨?_, ((Off.refl (fun k => k = b) W).setCell (p := ⟨b, 0, none⟩) (.inr rfl) _).setCell (p := ⟨b, 1, none⟩) (.inr rfl) _⟩
  rw [heap_setCell_same _ _ _ _ _ _ (heap_setCell_same _ _ _ _ _ _ h)]
  rfl
/-- which blocks the rounds leave as they are: what is Far stays so, whatever a round or a write to the blocks of S does. -/
structure FarO (Far : World → Nat → Prop) (Kp : World → World → Prop) (S : Nat → Prop) : Prop where
  kp : ∀ {A B : World} {k : Nat} {C : Array Value} {t : TypeId} {fr : Nat × Nat}, Kp A B → Far A k → A.heap[k]? = some (.cells C t fr) → B.heap[k]? = some (.cells C t fr) ∧ Far B k
  off : ∀ {A B : World} {k : Nat}, Far A k → Off S A B → Far B k
attribute [local go_sem] Oper.semAt_some
set_option maxRecDepth 20000 in
set_option maxHeartbeats 4000000 in
theorem pc1_in (n l bq o m : Nat) (hn : 1 ≤ n) (hm1 : 1 ≤ m) (hm2 : m ≤ 512) (ho : o ≤ 512) (Far : World → Nat → Prop) (Kp : World → World → Prop) (hF : FarO Far Kp (fun k => k = bq)) (J : List (Nat × Nat) → World → Prop) (W : World) (hFb : Far W bq) (hJ : Stb W.heap.size (fun k => k = bq) J)
    (hY : ∀ pre x W1, J pre W1 → pre ++ [x] <+: pcF o m → pre.length < (m - 1) / 100 + 1 → YieldAt Fence.wide (n - 1) Try.prog l (encP x) W1 fun e W' => e = .returned (.bool true) ∧ J (pre ++ [x]) W' ∧ Kp W1 W' ∧ KeepsFrom W.heap.size W1 W')
    (h1 : W.heap[bq]? = some (.cells #[.int .i64 (o : Nat), .int .i64 (m : Nat)] 56 (0, 0))) (h0 : J [] W) :
    CallsIn Fence.wide n Try.prog 84 #[.func (.yield l) #[] #[], .pointer (some ⟨bq, 0, none⟩)] W fun e W' => (∃ v, e = .returned v) ∧ ∃ xs, xs = pcF o m ∧ xs <+: pcF o m ∧ J xs W' := by
  have HY : Hid (∀ pre x W1, J pre W1 → pre ++ [x] <+: pcF o m → pre.length < (m - 1) / 100 + 1 → YieldAt Fence.wide (n - 1) Try.prog l (encP x) W1 fun e W' => e = .returned (.bool true) ∧ J (pre ++ [x]) W' ∧ Kp W1 W' ∧ KeepsFrom W.heap.size W1 W') := hY
  have H0 : Hid (J [] W ∧ W.heap[bq]? = some (.cells #[.int .i64 (o : Nat), .int .i64 (m : Nat)] 56 (0, 0)) ∧ Far W bq) := ⟨h0, h1, hFb⟩
  have HFO : Hid (FarO Far Kp (fun k => k = bq)) := hF
  have HJ : Hid (Stb W.heap.size (fun k => k = bq) J) := hJ
  clear hY h0 h1 hJ hF hFb
  refine callsIn_of_wp Try.func84 rfl trivial ?_ rfl
  simp only [Try.ntmps84, List.size_toArray, List.length_cons, List.length_nil, Nat.reduceAdd, Nat.reduceSub, Array.replicate_succ, Array.replicate_zero, List.push_toArray, List.append_toArray, List.nil_append, List.cons_append]
  gi_wp2
  gi_loopw [] (fun wr => ∃ k : Nat, k ≤ (m - 1) / 100 ∧ Hid (J (pcK o k) wr ∧ wr.heap[bq]? = some (.cells #[.int .i64 ((o + 100 * k : Nat) : Int), .int .i64 ((m - 100 * k : Nat) : Int)] 56 (0, 0)) ∧ Far wr bq)) (fun wr => cellN wr bq 1)
  case atStart => exact ⟨0, by omega, H0.out⟩
  case round =>
    obtain ⟨k, hk, HK⟩ := hrel
    have e0 := cell_of HK.out.2.1 0
    have e1 := cell_of HK.out.2.1 1
    simp only [List.getElem?_toArray, List.getElem?_cons_zero, List.getElem?_cons_succ] at e0 e1
    obtain ⟨A, hA⟩ : ∃ A : Nat, o + 100 * k = A := ⟨_, rfl⟩
    obtain ⟨M, hM⟩ : ∃ M : Nat, m - 100 * k = M := ⟨_, rfl⟩
    have HAM : Hid (o + 100 * k = A ∧ m - 100 * k = M) := ⟨hA, hM⟩
    rw [hA] at e0
    rw [hM] at e1
    have HK2 : Hid (J (pcK o k) wr ∧ wr.heap[bq]? = some (.cells #[.int .i64 (A : Int), .int .i64 (M : Int)] 56 (0, 0)) ∧ Far wr bq) := by have := HK.out; rw [hA, hM] at this; exact this
    have hcn : cellN wr bq 1 = M := by rw [cellN_of e1, Int.toNat_natCast]
    rw [hcn]
    clear HK hcn
    by_cases hlt : 100 < M
    · have hk2 : k < (m - 1) / 100 := by omega
      obtain ⟨fn, tmps, assign, body, hyy, hR⟩ := HY.out (pcK o k) (A, 100) wr HK2.out.1 (by rw [← hA, ← pcK_succ]; exact pcK_all o m (by omega)) (by rw [pcK_len]; omega)
      have HR : Hid (RoundIn Fence.wide (n - 1) Try.prog l fn tmps assign body _ _) := hR
      dsimp only [encP] at hyy
      change Sem.run Try.prog (Instr.yield l #[.agg #[.int .i64 (A : Int), .int .i64 100]]) wr = _ at hyy
      have hlt' : (100 : Int) < (M : Int) := by omega
      obtain ⟨A2, hA2⟩ : ∃ A2 : Nat, A + 100 = A2 := ⟨_, rfl⟩
      obtain ⟨M2, hM2⟩ : ∃ M2 : Nat, M - 100 = M2 := ⟨_, rfl⟩
      have HA2 : Hid (A + 100 = A2 ∧ M - 100 = M2) := ⟨hA2, hM2⟩
      have hw1 : IntKind.i64.wrap ((A : Int) + 100) = (A2 : Int) := by rw [IntKind.wrap_i64]; omega
      have hw2 : IntKind.i64.wrap ((M : Int) - 100) = (M2 : Int) := by rw [IntKind.wrap_i64]; omega
      clear hA2 hM2
      clear hR hA hM
      gi_wp2
      refine HR.out.mono ?_
      rintro e W3 ⟨rfl, hJ3, hk3, _⟩
      have H3 : Hid (J (pcK o k ++ [(A, 100)]) W3 ∧ W3.heap[bq]? = some (.cells #[.int .i64 (A : Int), .int .i64 (M : Int)] 56 (0, 0)) ∧ Far W3 bq) := ⟨hJ3, HFO.out.kp hk3 HK2.out.2.2 HK2.out.2.1⟩
      have d0 := cell_of H3.out.2.1 0
      have d1 := cell_of H3.out.2.1 1
      have f0 := frozen_of H3.out.2.1 0
      have f1 := frozen_of H3.out.2.1 1
      simp only [List.getElem?_toArray, List.getElem?_cons_zero, List.getElem?_cons_succ] at d0 d1
      clear hJ3 hk3 e0 e1
      gi_wp2
      have HS := set_row (o' := A2) (n' := M2) H3.out.2.1
      go_roundw
      case rel =>
        refine ⟨k + 1, by omega, HJ.out.2 _ _ _ (by rw [pcK_succ, HAM.out.1]; exact H3.out.1) HS.2, ?_, HFO.out.off H3.out.2.2 HS.2⟩
        have h1 := HAM.out
        have h2 := HA2.out
        rw [show o + 100 * (k + 1) = A2 by omega, show m - 100 * (k + 1) = M2 by omega]
        exact HS.1
      case measure =>
        have := cell_of HS.1 1
        simp only [List.getElem?_toArray, List.getElem?_cons_zero, List.getElem?_cons_succ] at this
        rw [cellN_of this, Int.toNat_natCast]
        have h2 := HA2.out
        omega
    · have hk2 : k = (m - 1) / 100 := by omega
      have HPF : Hid (pcK o k ++ [(A, M)] = pcF o m) := by show _ = _; unfold pcF; rw [← hk2, hA, hM]
      obtain ⟨fn, tmps, assign, body, hyy, hR⟩ := HY.out (pcK o k) (A, M) wr HK2.out.1 (by rw [HPF.out]; exact List.prefix_refl _) (by rw [pcK_len]; omega)
      have HR : Hid (RoundIn Fence.wide (n - 1) Try.prog l fn tmps assign body _ _) := hR
      dsimp only [encP] at hyy
      have hlt' : ¬ (100 : Int) < (M : Int) := by omega
      clear hR hA hM
      gi_wp2
      refine HR.out.mono ?_
      rintro e W3 ⟨rfl, hJ3, _⟩
      have H3 : Hid (J (pcF o m) W3) := by rw [← HPF.out]; exact hJ3
      clear hJ3 e0 e1
      gi_wp2
      go_end0
      exact ⟨⟨_, rfl⟩, _, rfl, List.prefix_refl _, H3.out⟩
theorem pc_hands (n bq o m : Nat) (hn : 1 ≤ n) (hm1 : 1 ≤ m) (hm2 : m ≤ 512) (ho : o ≤ 512) (Far : World → Nat → Prop) (Kp : World → World → Prop) (hF : FarO Far Kp (fun k => k = bq)) (w : World) (hFb : Far w bq) (h1 : w.heap[bq]? = some (.cells #[.int .i64 (o : Nat), .int .i64 (m : Nat)] 56 (0, 0))) :
    HandsB n Try.prog 84 #[.pointer (some ⟨bq, 0, none⟩)] encP Kp (fun ys => ys <+: pcF o m) (fun ys => ys = pcF o m) ((m - 1) / 100 + 1) (fun k => k = bq) (fun _ => True) w :=
  fun l J W hW hJ _ hY h0 => pc1_in n l bq o m hn hm1 hm2 ho Far Kp hF J W (hF.off hFb (Off.of_below hW)) hJ hY (old_block hW h1) h0
theorem pc_fn (o m : Int) (w : World) : Calls Try.prog 68 #[.agg #[.int .i64 o, .int .i64 m]] w fun e w' => e = .returned (.func (.func 84) #[] #[.pointer (some ⟨w.heap.size, 0, none⟩)]) ∧ w' = w.alloc (.cells #[.int .i64 o, .int .i64 m] 56) := by
  go_enter Try.func68, Try.ntmps68
  go_wp2
  go_ret
  exact ⟨rfl, rfl⟩
end Go.Proofs.Ytnjcaolkcmpdcaa
