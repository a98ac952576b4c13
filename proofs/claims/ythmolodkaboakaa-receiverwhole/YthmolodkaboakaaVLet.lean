/- (*turn).letGo: all that came in is let go. -/
import Derived.Test.YthmolodkaboakaaVSay
import Derived.Test.YthmolodkaboakaaVSmall
namespace Go.Proofs.Ythmolodkaboakaa
open Go.RowKit
set_option linter.unusedVariables false
theorem heap_setMid {q : Nat} {t : TypeId} (suf : List Value) : ∀ (vs pre zs : List Value) (W : World), zs.length = vs.length → W.heap[q]? = some (.cells (pre ++ (zs ++ suf)).toArray t (0, 0)) → (W.setCells q pre.length vs).heap[q]? = some (.cells (pre ++ (vs ++ suf)).toArray t (0, 0))
  | [], pre, zs, W, hl, h => by
    obtain rfl : zs = [] := List.eq_nil_of_length_eq_zero hl
    exact h
  | v :: vs, pre, [], W, hl, h => by cases hl
  | v :: vs, pre, z :: zs, W, hl, h => by
    have h1 : (W.setCell ⟨q, pre.length, none⟩ v).heap[q]? = _ := heap_setCell_same _ _ _ _ _ _ h
    have h2 := heap_setMid (q := q) (t := t) suf vs (pre ++ [v]) zs (W.setCell ⟨q, pre.length, none⟩ v) (by simpa using hl) (by rw [h1]; simp)
    rw [List.length_append, List.length_singleton, List.append_assoc, List.singleton_append] at h2
    exact h2
/-- a turn, how it lies: its rows are the call's own. -/
structure Tn (n : Nat) (w : World) (tb : Nat) (s : Tk) (a : Option Addr) (c : Nat) (g : Option Addr) (d : Nat) (v : Value) : Prop where
  here : w.heap[tb]? = some (tc s a c g d v)
  kn : KN n w s a c g d
  lt : tb < w.heap.size
  le : n ≤ w.heap.size
/-- what is owned does not lie in a block of another type. -/
theorem own_apart {w : World} {n : Nat} {e t : TypeId} {size : Nat} {v : Value} {m k : Nat} {xs : List Value} {C : Array Value} (h : w.ownsRow n e size v m xs) (hb : w.heap[k]? = some (.cells C t (0, 0))) (ht : t ≠ e) (hk : v.ownBlock = some k) : False := by
  rcases h.2 with ⟨rfl, _⟩ | ⟨g2, cap, cur, rfl, _, hc, _⟩
  · cases hk
  · cases hk
    rw [hb] at hc
    simp only [Option.some.injEq, Obj.cells.injEq] at hc
    exact ht hc.2.1
theorem KN.keep {n : Nat} {w w' : World} {tb : Nat} {s : Tk} {a : Option Addr} {c : Nat} {g : Option Addr} {d : Nat} {C : Array Value} (h : KN n w s a c g d) (hb : w.heap[tb]? = some (.cells C 64 (0, 0))) (ho : Off (fun i => i = tb) w w') : KN n w' s a c g d :=
  ⟨ho.owns h.byt (fun k e t => own_apart h.byt hb (t := 64) (by decide) (by have t' : k = tb := t; rw [← t']; exact e)), ho.owns h.got (fun k e t => own_apart h.got hb (t := 64) (by decide) (by have t' : k = tb := t; rw [← t']; exact e)), h.bok⟩
theorem Tn.off {n : Nat} {w w' : World} {tb : Nat} {s : Tk} {a : Option Addr} {c : Nat} {g : Option Addr} {d : Nat} {v : Value} {S : Nat → Prop} (h : Tn n w tb s a c g d v) (ho : Off S w w') (hS : ∀ k, S k → k < n) (ht : ¬ S tb) : Tn n w' tb s a c g d v :=
  ⟨ho.at h.here ht, h.kn.off ho hS, Nat.lt_of_lt_of_le h.lt ho.size, Nat.le_trans h.le ho.size⟩
/-- own bytes, as a block. -/
theorem own_block {w : World} {n : Nat} {a : Option Addr} {c : Nat} {l : List Nat} (h : w.ownsRow n 5 1 (.slice a l.length c) l.length (cells l)) (h0 : 0 < l.length) : ∃ g suf, a = some ⟨g, 0, none⟩ ∧ n ≤ g ∧ w.heap[g]? = some (.cells (cells l ++ suf).toArray 5 (0, 0)) ∧ l.length + suf.length = c ∧ c ≤ maxLen := by
  rcases h.2 with ⟨h1, h2⟩ | ⟨g, cap, cur, h1, h2, h3, h4, h5, h6, h7⟩
  · omega
  · simp only [Value.slice.injEq, true_and] at h1
    obtain ⟨rfl, rfl⟩ := h1
    refine ⟨g, cur.toList.drop l.length, rfl, h2, ?_, ?_, h5⟩
    · rw [h3]
      congr 1
      rw [Nat.mul_one] at h7
      rw [← h7, List.take_append_drop]
    · simp [h6]; omega
theorem block_own {w : World} {n g : Nat} {c : Nat} {l : List Nat} {suf : List Value} (hn : n ≤ g) (h : w.heap[g]? = some (.cells (cells l ++ suf).toArray 5 (0, 0))) (hc : l.length + suf.length = c) (hm : c ≤ maxLen) : w.ownsRow n 5 1 (.slice (some ⟨g, 0, none⟩) l.length c) l.length (cells l) :=
  ⟨by rw [cells_length, Nat.mul_one], .inr ⟨g, c, _, rfl, hn, h, by omega, hm, by simp [cells_length]; omega, by simp [cells_length]⟩⟩
theorem zero8 (w : World) : (zeroValue 5).run Try.prog w = .ok (.int .u8 0) w := by
  obtain ⟨i0, hi, hz0, _, _⟩ := info_parts Try.info5
  simp [zeroValue, typeInfo, hi, hz0]
theorem clear_run {w : World} {n : Nat} {a : Option Addr} {c : Nat} {l : List Nat} (h : w.ownsRow n 5 1 (.slice a l.length c) l.length (cells l)) (h0 : 0 < l.length) : ∃ w', (∀ ty, (Builtin.clear_ #[23] ty #[.slice a l.length c]).run Try.prog w = .ok (.tuple #[]) w') ∧ w'.ownsRow n 5 1 (.slice a l.length c) l.length (cells (List.replicate l.length 0)) ∧ Off (fun i => ∃ o, a = some ⟨i, o, none⟩) w w' := by
  obtain ⟨g, suf, rfl, hg, hb, hc, hm⟩ := own_block h h0
  have hlen : (cells l ++ suf).length = c := by rw [List.length_append, cells_length]; exact hc
  refine ⟨_, fun ty => Lib.run_clear_slice w 23 5 ty (.int .u8 0) Try.underlying23 zero8 rfl rfl g 0 l.length c h0 (fun j hj => ?_) (fun j _ => frozen_of hb _), ?_, ?_⟩
  · rw [cell_of hb, Nat.zero_add, Array.getElem?_eq_getElem (by simp [cells_length]; omega)]
    rfl
  · have hs := heap_setMid suf (List.replicate l.length (.int .u8 0)) [] (cells l) w (by simp [cells_length]) hb
    have := block_own (l := List.replicate l.length 0) hg (by simpa [cells] using hs) (by simpa using hc) hm
    simpa using this
  · exact Off.setCells (S := fun i => ∃ o, some (⟨g, 0, none⟩ : Addr) = some ⟨i, o, none⟩) (.inr ⟨0, rfl⟩) _ _ _ (Off.refl _ _)
/-- what is sent: none, or one segment. -/
def Sent (n : Nat) (w : World) (v : Value) : List Sg → Prop
  | [] => v = .slice none 0 0
  | x :: r => r = [] ∧ ∃ g2 cap a2 c2, v = .slice (some ⟨g2, 0, none⟩) 1 cap ∧ n ≤ g2 ∧ w.rangeAt g2 0 (sgcells x none 0 a2 c2) ∧ x.dat = [] ∧ RowC w a2 x.cls ∧ (∀ bb, a2 = some bb → n ≤ bb.block) ∧ x.cls.length ≤ c2 ∧ c2 ≤ maxLen ∧ 1 ≤ cap ∧ cap ≤ maxLen
/-- which old blocks a turn writes: its own, and that of its bytes. -/
def Wr (tb : Nat) (a0 : Option Addr) (i : Nat) : Prop := i = tb ∨ ∃ o, a0 = some ⟨i, o, none⟩
/-- what a call leaves of a turn. -/
def Left (n : Nat) (w w' : World) (tb : Nat) (a0 : Option Addr) (s : Tk) (l : List Sg) : Prop := ∃ c g d v, Tn n w' tb s a0 c g d v ∧ Sent n w' v l ∧ Off (Wr tb a0) w w'
theorem said_left {n : Nat} {w0 w w' : World} {tb : Nat} {s : Tk} {a : Option Addr} {c : Nat} {g : Option Addr} {d : Nat} {X : Sg} {a2 : Option Addr} {c2 : Nat} (h : Tn n w tb s a c g d (.slice none 0 0)) (ho : Off (Wr tb a) w0 w) (hs : Said w w' tb s a c g d X none 0 a2 c2) (hx : X.dat = []) (hr : RowC w a2 X.cls) (hn : ∀ bb, a2 = some bb → n ≤ bb.block ∧ bb.block ≠ tb) (hl : X.cls.length ≤ c2) (hm : c2 ≤ maxLen) : Left n w0 w' tb a s [X] := by
  obtain ⟨g2, cap, h1, h2, h3, h4, h5, h6⟩ := hs
  refine ⟨c, g, d, _, ⟨h1, h.kn.keep h.here h3, Nat.lt_of_lt_of_le h.lt h3.size, Nat.le_trans h.le h3.size⟩, ⟨rfl, g2, cap, a2, c2, rfl, Nat.le_trans h.le h4, h2, hx, ?_, fun bb e => (hn bb e).1, hl, hm, h5, h6⟩, ho.trans h3 (fun i _ e => .inl e)⟩
  refine ⟨hr.1, fun h0 => ?_⟩
  obtain ⟨b, off, rfl, hc⟩ := hr.2 h0
  have := hn _ rfl
  exact ⟨b, off, rfl, fun i hi => ⟨h3.cell (hc i hi).1 this.2, h3.cell (hc i hi).2 this.2⟩⟩
def goneK (s : Tk) : Tk := { s with sta := 4, got := [], byt := List.replicate s.byt.length 0 }
theorem let_set {n : Nat} {w w' : World} {tb : Nat} {s : Tk} {a : Option Addr} {c : Nat} {g : Option Addr} {d : Nat} (h : Tn n w tb s a c g d (.slice none 0 0)) (he : w' = (w.setCell ⟨tb, 6, none⟩ (.int .i64 4)).setCell ⟨tb, 4, none⟩ (.slice none 0 0)) : Tn n w' tb { s with sta := 4, got := [] } a c none 0 (.slice none 0 0) ∧ Off (fun i => i = tb) w w' := by
  subst he
  have ho : Off (fun i => i = tb) w ((w.setCell ⟨tb, 6, none⟩ (.int .i64 4)).setCell ⟨tb, 4, none⟩ (.slice none 0 0)) := ((Off.refl (fun i => i = tb) w).setCell (p := ⟨tb, 6, none⟩) (.inr rfl) _).setCell (p := ⟨tb, 4, none⟩) (.inr rfl) _
  have hk := h.kn.keep h.here ho
  refine ⟨⟨?_, ⟨hk.byt, ⟨rfl, .inl ⟨rfl, rfl⟩⟩, hk.bok⟩, Nat.lt_of_lt_of_le h.lt ho.size, Nat.le_trans h.le ho.size⟩, ho⟩
  rw [heap_setCell_same _ _ _ _ _ _ (heap_setCell_same _ _ _ _ _ _ h.here)]
  rfl
set_option maxRecDepth 20000 in
set_option maxHeartbeats 4000000 in
theorem vlet_any (n : Nat) (s : Tk) (a : Option Addr) (c : Nat) (g : Option Addr) (d : Nat) (tb : Nat) (w : World) (h : Tn n w tb s a c g d (.slice none 0 0)) (h0 : 0 < s.byt.length) :
    Calls Try.prog 55 #[.pointer (some ⟨tb, 0, none⟩)] w fun e w' => e = .returned (.tuple #[]) ∧ Hid (Left n w w' tb a (goneK s) [⟨6, s.src, s.ses, 0, 0, 0, 0, 0, 0, 3, false, [], []⟩]) := by
  have HT : Hid (Tn n w tb s a c g d (.slice none 0 0)) := h
  obtain ⟨k0, k1, k2, k3, k4, k5, k6, k7, k8, k9⟩ := tc_get h.here
  have ff := frozen_of h.here
  obtain ⟨t1, o1⟩ := let_set h rfl
  obtain ⟨w2, hclr, hb2, o2⟩ := clear_run t1.kn.byt h0
  have HT2 : Hid (Tn n w2 tb (goneK s) a c none 0 (.slice none 0 0) ∧ Off (Wr tb a) w w2) := by
    refine ⟨⟨o2.at t1.here (fun t => by obtain ⟨o, t⟩ := t; exact own_apart t1.kn.byt t1.here (by decide) (by rw [t]; rfl)) ▸ ?_, ⟨?_, ⟨rfl, .inl ⟨rfl, rfl⟩⟩, ?_⟩, Nat.lt_of_lt_of_le t1.lt o2.size, Nat.le_trans t1.le o2.size⟩, (o1.mono (fun i _ e => .inl e)).trans o2 (fun i _ e => .inr e)⟩
    · simp [goneK]
    · simpa [goneK] using hb2
    · intro x hx
      simp only [goneK] at hx
      rw [List.eq_of_mem_replicate hx]
      omega
  have HC : Hid (Calls Try.prog 40 #[.pointer (some ⟨tb, 0, none⟩), .int .i64 3] w2 fun e w' => e = .returned (.tuple #[]) ∧ Hid (Said w2 w' tb (goneK s) a c none 0 ⟨6, s.src, s.ses, 0, 0, 0, 0, 0, 0, 3, false, [], []⟩ none 0 none 0)) := vstop_any (goneK s) a c none 0 tb 3 w2 HT2.out.1.here
  clear h t1 o1 hb2 o2
  go_enter Try.func55, Try.ntmps55
  go_wp2_with (go_at_call 40; refine HC.out.mono ?_; rintro e w3 ⟨rfl, hq⟩)
  have HF := said_left HT2.out.1 HT2.out.2 hq.out rfl ⟨by simp, fun h => absurd h (by simp)⟩ (fun bb e => by cases e) (by simp) (by simp)
  go_end0
  exact ⟨rfl, HF⟩
end Go.Proofs.Ythmolodkaboakaa
