/- The walks of leaving and of the function that it answers. -/
import Derived.Test.YtmmcdnniconalaaQStep
import Derived.Test.YtmmcdnniconalaaQTold
namespace Go.Proofs.Ytmmcdnniconalaa
open Go.RowKit Go.Shelf
set_option linter.unusedVariables false

def encC (y : Nat × Ct) : Array Value := #[.int .i64 (y.1 : Nat), cv y.2]
theorem KpT.ct {T : Nat → Prop} {W W' : World} (h : KpT T W W') {a : Option Addr} {X : List Ct} (hx : CtAt T W a X) : CtAt T W' a X := by
  intro h0
  obtain ⟨b, o, rfl, hn, hc⟩ := hx h0
  exact ⟨b, o, rfl, hn, fun j u hu => h.cell (hc j u hu) hn⟩
theorem KpT.nums {T : Nat → Prop} {W W' : World} (h : KpT T W W') {a : Option Addr} {l : List Int} (hx : RowI T W a l) : RowI T W' a l := by
  intro h0
  obtain ⟨b, o, rfl, hn, hc⟩ := hx h0
  exact ⟨b, o, rfl, hn, fun i hi => h.cell (hc i hi) hn⟩

set_option maxRecDepth 20000 in
set_option maxHeartbeats 4000000 in
theorem leav1_in (n l bp bn m k : Nat) (T : Nat → Prop) (nd : Int) (ad : Option Addr) (X : List Ct) (hn : 1 ≤ n) (hm : X.length = m) (h24 : m ≤ 24) (J Jx : List (Nat × Ct) → World → Prop) (W : World) (hJ : OwnFrom W.heap.size J)
    (hY : ∀ pre x W1, J pre W1 → pre ++ [x] <+: ysK (lvP nd) X m → pre.length < m → YieldAt Fence.wide (n - 1) Try.prog l (encC x) W1 fun e W' =>
      (e = .returned (.bool true) ∧ J (pre ++ [x]) W' ∧ KpT T W1 W' ∧ KeepsFrom W.heap.size W1 W') ∨ (e = .returned (.bool false) ∧ Jx (pre ++ [x]) W' ∧ KpT T W1 W' ∧ KeepsFrom W.heap.size W1 W'))
    (h1 : W.cell? ⟨bp, 1, none⟩ = some (.slice ad m k)) (h2 : W.cell? ⟨bn, 0, none⟩ = some (.int .i64 nd)) (n1 : ¬ T bp) (n2 : ¬ T bn) (hX : CtAt T W ad X) (h0 : J [] W) :
    CallsIn Fence.wide n Try.prog 28 #[.func (.yield l) #[] #[], .pointer (some ⟨bp, 0, none⟩), .pointer (some ⟨bn, 0, none⟩)] W fun e W' => (∃ v, e = .returned v) ∧
      ((∃ ys : List (Nat × Ct), ys = ysK (lvP nd) X m ∧ ys <+: ysK (lvP nd) X m ∧ J ys W') ∨ (∃ pre, Jx pre W')) := by
  refine callsIn_of_wp Try.func28 rfl trivial ?_ rfl
  simp only [Try.ntmps28, List.size_toArray, List.length_cons, List.length_nil, Nat.reduceAdd, Nat.reduceSub, Array.replicate_succ, Array.replicate_zero, List.push_toArray, List.append_toArray, List.nil_append, List.cons_append]
  gi_wp2
  gi_loopw [9] (fun i wr => ∃ j : Nat, j ≤ m ∧ i = .int .i64 j ∧ Hid (J (ysK (lvP nd) X j) wr ∧ CtAt T wr ad X) ∧ wr.cell? ⟨bn, 0, none⟩ = some (.int .i64 nd)) (fun i _ => m - (intOf i).toNat)
  case atStart => exact ⟨0, Nat.zero_le _, rfl, ⟨h0, hX⟩, h2⟩
  case round =>
    obtain ⟨j, hj, rfl, HK, c2⟩ := hrel
    by_cases hlt : j < m
    · obtain ⟨c, hc⟩ : ∃ c, X[j]? = some c := ⟨_, List.getElem?_eq_getElem (by omega)⟩
      obtain ⟨b, o, rfl, y0, y1, y2, y3, y4, y5⟩ := HK.out.2.cells6 hc
      have hb : Below wr.heap.size wr (wr.alloc (.cells (cc c) 43)) := (Below.refl _ wr).alloc (Nat.le_refl _) _
      have hJ1 := own_below hJ HK.out.1 hb
      have hX1 : CtAt T (wr.alloc (.cells (cc c) 43)) (some ⟨b, o, none⟩) X := HK.out.2.later hb
      have c2' := cell_later hb c2
      by_cases hat : c.frm = nd
      · have hys : ysK (lvP nd) X (j + 1) = ysK (lvP nd) X j ++ [(j, c)] := by rw [ysK_succ hc, if_pos (by simp [lvP, hat])]
        have hpre : ysK (lvP nd) X j ++ [(j, c)] <+: ysK (lvP nd) X m := by rw [← hys]; exact ysK_pre _ _ (by omega)
        obtain ⟨fn, tmps, assign, body, hyy, hR⟩ := hY _ (j, c) _ hJ1 hpre (by have := ysK_len (lvP nd) X j; omega)
        have HR : Hid (RoundIn Fence.wide (n - 1) Try.prog l fn tmps assign body _ _) := hR
        have HX1 : Hid (CtAt T (wr.alloc (.cells (cc c) 43)) (some ⟨b, o, none⟩) X) := hX1
        have HYS : Hid (ysK (lvP nd) X (j + 1) = ysK (lvP nd) X j ++ [(j, c)]) := hys
        unfold cc at hyy c2' HX1 HR
        dsimp only [encC, cv] at hyy
        clear hR hJ1 hc HK hb hpre hys hX1 h1 h2 hX h0
        subst hat
        gi_wp2
        refine HR.out.mono ?_
        rintro e W3 (⟨rfl, hJ3, hk3, _⟩ | ⟨rfl, hJx3, _⟩)
        · have c3 := hk3.cell c2' n2
          have HQ : Hid (J (ysK (lvP c.frm) X (j + 1)) W3 ∧ CtAt T W3 (some ⟨b, o, none⟩) X) := ⟨by rw [HYS.out]; exact hJ3, hk3.ct HX1.out⟩
          clear hJ3 hk3
          gi_wp2
          go_roundw
          case rel => exact ⟨j + 1, by omega, by go_num, HQ, c3⟩
          case measure => simp [intOf]; omega
        · gi_wp2
          refine bodyPost_ret (results_none rfl _ _ _) rfl ?_
          exact ⟨⟨_, rfl⟩, .inr ⟨_, hJx3⟩⟩
      · have hys : ysK (lvP nd) X (j + 1) = ysK (lvP nd) X j := by rw [ysK_succ hc, if_neg (by simp [lvP, hat]), List.append_nil]
        have HQ : Hid (J (ysK (lvP nd) X (j + 1)) (wr.alloc (.cells (cc c) 43)) ∧ CtAt T (wr.alloc (.cells (cc c) 43)) (some ⟨b, o, none⟩) X) := ⟨by rw [hys]; exact hJ1, hX1⟩
        have hat' : (c.frm == nd) = false := by simpa using hat
        unfold cc at HQ c2'
        clear hJ1 hc HK hb hys hX1 h1 h2 hX h0 hat
        gi_wp2
        refine ⟨fun _ h => (by cases h), ?_⟩
        gi_wp2
        go_roundw
        case rel => exact ⟨j + 1, by omega, by go_num, HQ, c2'⟩
        case measure => simp [intOf]; omega
    · gi_wp2
      go_end0
      obtain rfl : j = m := by omega
      exact ⟨⟨_, rfl⟩, .inl ⟨_, rfl, List.prefix_refl _, HK.out.1⟩⟩

theorem leav_hands (n bp bn m k : Nat) (T : Nat → Prop) (nd : Int) (ad : Option Addr) (X : List Ct) (hn : 1 ≤ n) (hm : X.length = m) (h24 : m ≤ 24) (w : World) (h1 : w.cell? ⟨bp, 1, none⟩ = some (.slice ad m k)) (h2 : w.cell? ⟨bn, 0, none⟩ = some (.int .i64 nd)) (n1 : ¬ T bp) (n2 : ¬ T bn) (hX : CtAt T w ad X) :
    Hands n Try.prog 28 #[.pointer (some ⟨bp, 0, none⟩), .pointer (some ⟨bn, 0, none⟩)] encC (KpT T) (fun ys _ => ys <+: ysK (lvP nd) X m) (fun ys => ys = ysK (lvP nd) X m) m w :=
  fun l J Jx W hW hJ _ hY h0 => leav1_in n l bp bn m k T nd ad X hn hm h24 J Jx W hJ hY (cell_later hW h1) (cell_later hW h2) n1 n2 (hX.later hW) h0
theorem leav_fn (nn nd : Int) (a : Option Addr) (m k : Nat) (w : World) : Calls Try.prog 19 #[pv nn a m k, .int .i64 nd] w fun e w' => e = .returned (.func (.func 28) #[] #[.pointer (some ⟨w.heap.size, 0, none⟩), .pointer (some ⟨w.heap.size + 1, 0, none⟩)]) ∧ w' = (w.alloc (.cells #[.int .i64 nn, .slice a m k] 24)).alloc (.cells #[.int .i64 nd] 3) := by
  unfold pv
  go_enter Try.func19, Try.ntmps19
  go_wp2
  go_ret
  exact ⟨rfl, rfl⟩
end Go.Proofs.Ytmmcdnniconalaa
