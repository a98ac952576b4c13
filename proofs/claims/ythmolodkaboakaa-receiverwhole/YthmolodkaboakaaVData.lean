/- (*turn).takeData. -/
import Derived.Test.YthmolodkaboakaaVPut
import Derived.Test.YthmolodkaboakaaVDif
import Derived.Test.YthmolodkaboakaaVRep
namespace Go.Proofs.Ythmolodkaboakaa
open Go.RowKit
set_option linter.unusedVariables false
/-- what becomes of a session by a data segment, and what is sent. -/
def datK (s : Tk) (x : Sg) : Tk × List Sg :=
  if s.sta = 4 then (s, []) else if x.tot ≠ s.tot then (goneK s, [⟨6, s.src, s.ses, 0, 0, 0, 0, 0, 0, 3, false, [], []⟩])
  else if difK s x = true then (goneK s, [⟨6, s.src, s.ses, 0, 0, 0, 0, 0, 0, 3, false, [], []⟩])
  else if x.chk = true then (serK (putK s x), [repK (putK s x) x.ser]) else (putK s x, [])
theorem tog_len : ∀ (L : List (Int × Int)) (x y : Int), (tog L x y).length ≤ L.length + 1 ∧ 0 < (tog L x y).length
  | [], x, y => by simp [tog]
  | r :: rs, x, y => by
    unfold tog
    split
    · have := tog_len rs x y; simp; omega
    · split
      · have := tog_len rs r.1 r.2; simp; omega
      · have := tog_len rs (min r.1 x) (max (r.1 + r.2) (x + y) - min r.1 x); simp only [List.length_cons]; omega
theorem putK_got (s : Tk) (x : Sg) : (putK s x).got = tog s.got x.off x.dat.length ∧ (putK s x).ser = s.ser := by
  unfold putK
  split <;> exact ⟨rfl, rfl⟩
/-- a segment that lies as box. -/
theorem x_get {W : World} {b : Nat} {x : Sg} {xa : Option Addr} {xc : Nat} {a2 : Option Addr} {c2 : Nat} (h : W.heap[b]? = some (sc x xa xc a2 c2)) : W.cell? ⟨b, 3, none⟩ = some (.int .u32 (x.ser : Nat)) ∧ W.cell? ⟨b, 6, none⟩ = some (.int .i64 x.tot) ∧ W.cell? ⟨b, 10, none⟩ = some (.bool x.chk) := ⟨(scells h).2.2.2.1, (scells h).2.2.2.2.2.2.1, (scells h).2.2.2.2.2.2.2.2.2.2.1⟩
theorem kn_rows {n : Nat} {w : World} {s : Tk} {a : Option Addr} {c : Nat} {g : Option Addr} {d : Nat} (h : KN n w s a c g d) (hl : s.byt.length ≤ maxLen) : Row w a s.byt ∧ RowC w g s.got ∧ (s.byt.length ≤ c ∧ c ≤ maxLen) ∧ (s.got.length ≤ d ∧ d ≤ maxLen) := by
  obtain ⟨a', c', e1, e2, e3, e4⟩ := own_row h.byt h.bok hl
  simp only [Value.slice.injEq, true_and] at e1
  obtain ⟨rfl, rfl⟩ := e1
  obtain ⟨g', d', f1, _, f3, f4, f5, _⟩ := ownC_row h.got
  simp only [Value.slice.injEq, true_and] at f1
  obtain ⟨rfl, rfl⟩ := f1
  exact ⟨e4, f5, ⟨e2, e3⟩, ⟨f3, f4⟩⟩
structure DatPre (n : Nat) (w : World) (tb : Nat) (s : Tk) (a : Option Addr) (c : Nat) (g : Option Addr) (d : Nat) (x : Sg) (xa : Option Addr) : Prop where
  tn : Tn n w tb s a c g d (.slice none 0 0)
  ok : clsOk s.tot 0 s.got = true ∧ (1 ≤ s.tot ∧ s.tot ≤ 512) ∧ (s.byt.length : Int) = s.tot
  ser : s.ser < 4294967296
  row : Row w xa x.dat
  dat : (1 ≤ x.tot ∧ x.tot ≤ 512) ∧ (1 ≤ (x.dat.length : Int) ∧ (x.dat.length : Int) ≤ 100) ∧ (0 ≤ x.off ∧ x.off ≤ x.tot - (x.dat.length : Int))
theorem DatPre.later {n : Nat} {w w' : World} {tb : Nat} {s : Tk} {a : Option Addr} {c : Nat} {g : Option Addr} {d : Nat} {x : Sg} {xa : Option Addr} (h : DatPre n w tb s a c g d x xa) (hb : Below w.heap.size w w') : DatPre n w' tb s a c g d x xa :=
  { h with tn := h.tn.off (S := fun _ => False) (Off.of_below hb) (fun _ t => t.elim) id, row := h.row.later hb }
theorem DatPre.got {n : Nat} {w : World} {tb : Nat} {s : Tk} {a : Option Addr} {c : Nat} {g : Option Addr} {d : Nat} {x : Sg} {xa : Option Addr} (h : DatPre n w tb s a c g d x xa) : (∀ r ∈ s.got, (0 ≤ r.1 ∧ r.1 ≤ 512) ∧ (0 ≤ r.2 ∧ r.2 ≤ 512)) ∧ s.got.length ≤ 512 := by
  refine ⟨clsOk_all s.tot s.got 0 (by omega) h.ok.2.1.2 h.ok.1, ?_⟩
  have := h.ok.2.1
  rcases clsOk_len _ s.got 0 (by omega) h.ok.1 with h6 | h6
  · omega
  · rw [h6]; simp
theorem left_box {n : Nat} {w wc w1 : World} {tb : Nat} {s s' : Tk} {a : Option Addr} {c : Nat} {g : Option Addr} {d : Nat} {x : Sg} {xa : Option Addr} {l : List Sg} {o : Obj} (h : DatPre n w tb s a c g d x xa) (hb : Below w.heap.size w wc) (hx : wc.heap[w.heap.size]? = some o) (k : Left n wc w1 tb a s' l) : w1.heap[w.heap.size]? = some o := by
  obtain ⟨_, _, _, _, _, _, h3⟩ := k
  refine h3.at hx (fun t => ?_)
  have h1 := h.tn.lt
  have h2 := h.tn.le
  rcases t with t | ⟨o, t⟩
  · omega
  · have h0 : 0 < s.byt.length := by have := h.ok; omega
    obtain ⟨g2, suf, e, _, hh, _⟩ := own_block h.tn.kn.byt h0
    rw [t] at e
    cases e
    have := (Array.getElem?_eq_some_iff.1 hh).1
    omega
theorem left_ahead {n : Nat} {w w1 w' : World} {tb : Nat} {a0 : Option Addr} {s : Tk} {l : List Sg} (h : Below w.heap.size w w1) (k : Left n w1 w' tb a0 s l) : Left n w w' tb a0 s l := by
  obtain ⟨c, g, d, v, h1, h2, h3⟩ := k
  exact ⟨c, g, d, v, h1, h2, (Off.of_below (S := Wr tb a0) h).trans h3 (fun _ _ t => t)⟩
theorem takes_cells {n : Nat} {w W : World} {tb : Nat} {s : Tk} {a : Option Addr} {c : Nat} {g : Option Addr} {d : Nat} {x : Sg} {xa : Option Addr} {xc : Nat} {a2 : Option Addr} {c2 : Nat} (h : DatPre n w tb s a c g d x xa) (hb : Below w.heap.size w W) (hx : W.heap[w.heap.size]? = some (sc x xa xc a2 c2)) : W.cell? ⟨tb, 0, none⟩ = some (.int .i64 s.src) ∧ W.cell? ⟨tb, 1, none⟩ = some (.int .u32 (s.ses : Nat)) ∧ W.cell? ⟨tb, 2, none⟩ = some (.int .i64 s.tot) ∧ W.cell? ⟨tb, 3, none⟩ = some (.slice a s.byt.length c) ∧ W.cell? ⟨tb, 4, none⟩ = some (.slice g s.got.length d) ∧ W.cell? ⟨tb, 5, none⟩ = some (.int .u32 (s.ser : Nat)) ∧ W.cell? ⟨tb, 6, none⟩ = some (.int .i64 s.sta) ∧ W.cell? ⟨tb, 7, none⟩ = some (.int .i64 s.lif) ∧ W.cell? ⟨tb, 8, none⟩ = some (.int .i64 s.due) ∧ W.cell? ⟨w.heap.size, 0, none⟩ = some (.int .i64 x.knd) ∧ W.cell? ⟨w.heap.size, 1, none⟩ = some (.int .i64 x.src) ∧ W.cell? ⟨w.heap.size, 2, none⟩ = some (.int .u32 (x.ses : Nat)) ∧ W.cell? ⟨w.heap.size, 3, none⟩ = some (.int .u32 (x.ser : Nat)) ∧ W.cell? ⟨w.heap.size, 4, none⟩ = some (.int .u32 (x.cks : Nat)) ∧ W.cell? ⟨w.heap.size, 5, none⟩ = some (.int .i64 x.off) ∧ W.cell? ⟨w.heap.size, 6, none⟩ = some (.int .i64 x.tot) ∧ W.cell? ⟨w.heap.size, 7, none⟩ = some (.int .i64 x.low) ∧ W.cell? ⟨w.heap.size, 8, none⟩ = some (.int .i64 x.upp) ∧ W.cell? ⟨w.heap.size, 9, none⟩ = some (.int .i64 x.rea) ∧ W.cell? ⟨w.heap.size, 10, none⟩ = some (.bool x.chk) ∧ W.cell? ⟨w.heap.size, 11, none⟩ = some (.slice xa x.dat.length xc) ∧ W.cell? ⟨w.heap.size, 12, none⟩ = some (.slice a2 x.cls.length c2) := by
  obtain ⟨k0, k1, k2, k3, k4, k5, k6, k7, k8, _⟩ := tc_get (h.later hb).tn.here
  obtain ⟨x0, x1, x2, x3, x4, x5, x6, x7, x8, x9, x10, x11, x12⟩ := scells hx
  exact ⟨k0, k1, k2, k3, k4, k5, k6, k7, k8, x0, x1, x2, x3, x4, x5, x6, x7, x8, x9, x10, x11, x12⟩
set_option maxRecDepth 20000 in
set_option maxHeartbeats 4000000 in
theorem vdata_any (n : Nat) (s : Tk) (a : Option Addr) (c : Nat) (g : Option Addr) (d : Nat) (tb : Nat) (x : Sg) (xa : Option Addr) (xc : Nat) (a2 : Option Addr) (c2 : Nat) (w : World) (h : DatPre n w tb s a c g d x xa) :
    Calls Try.prog 32 #[.pointer (some ⟨tb, 0, none⟩), sv x xa xc a2 c2] w fun e w' => e = .returned (.tuple #[]) ∧ Hid (Left n w w' tb a (datK s x).1 (datK s x).2) := by
  have HP : Hid (DatPre n w tb s a c g d x xa) := h
  have HB1 : Hid (Below w.heap.size w (w.alloc (sc x xa xc a2 c2))) := (Below.refl _ w).alloc (Nat.le_refl _) _
  have HX1 : Hid ((w.alloc (sc x xa xc a2 c2)).heap[w.heap.size]? = some (sc x xa xc a2 c2)) := heap_alloc_new w _
  obtain ⟨_, _, t2, _, _, _, t6, _, _, _⟩ := tc_get (h.later HB1.out).tn.here
  obtain ⟨x3, x6, x10⟩ := x_get HX1.out
  have HE : Hid (datK s x = if s.sta = 4 then (s, []) else if x.tot ≠ s.tot then (goneK s, [⟨6, s.src, s.ses, 0, 0, 0, 0, 0, 0, 3, false, [], []⟩])
  else if difK s x = true then (goneK s, [⟨6, s.src, s.ses, 0, 0, 0, 0, 0, 0, 3, false, [], []⟩])
  else if x.chk = true then (serK (putK s x), [repK (putK s x) x.ser]) else (putK s x, [])) := rfl
  have HLET : Hid (∀ W, Below w.heap.size w W → Calls Try.prog 55 #[.pointer (some ⟨tb, 0, none⟩)] W fun e w' => e = .returned (.tuple #[]) ∧ Hid (Left n W w' tb a (goneK s) [⟨6, s.src, s.ses, 0, 0, 0, 0, 0, 0, 3, false, [], []⟩])) := fun W hb => vlet_any n s a c g d tb W (h.later hb).tn (by have := h.ok; omega)
  generalize datK s x = R at HE ⊢
  clear h
  by_cases h4 : s.sta = 4
  · have hb4 : (s.sta == 4) = true := by simpa using h4
    rw [if_pos h4] at HE
    go_enter Try.func32, Try.ntmps32
    go_wp2
    have HF : Hid (Left n w (w.alloc (sc x xa xc a2 c2)) tb a R.1 R.2) := by rw [HE.out]; exact ⟨_, _, _, _, (HP.out.later HB1.out).tn, rfl, Off.of_below HB1.out⟩
    go_end0
    exact ⟨rfl, HF⟩
  · have hb4 : (s.sta == 4) = false := by simpa using h4
    rw [if_neg h4] at HE
    by_cases ht : x.tot = s.tot
    · rw [if_neg (by simpa using ht)] at HE
      have hbt : (x.tot != s.tot) = false := by simpa using ht
      have HDIF : Hid (∀ W, Below w.heap.size w W → Calls Try.prog 54 #[kv s a c g d, sv x xa xc a2 c2] W fun e w' => e = .returned (.bool (difK s x)) ∧ Hid (Below W.heap.size W w')) := fun W hb => by
        have h := HP.out.later hb
        have h1 := h.ok
        have h2 := h.dat
        have h3 := kn_rows h.tn.kn (by unfold maxLen; omega)
        exact vdif_any s a c g d x xa xc a2 c2 W h3.1 h3.2.1 h.row h.got.1 (by have := h.got.2; omega) (by omega) (by omega) (by omega)
      have hS0 := takes_cells HP.out HB1.out HX1.out
      have HTT : Hid (x.tot = s.tot) := ht
      clear ht
      generalize difK s x = D at HE HDIF
      go_enter Try.func32, Try.ntmps32
      go_wp2_with fail
      go_cut [20] from 21 to 37 (fun u wd => u = .bool D ∧ Hid (Below w.heap.size w wd ∧ wd.heap[w.heap.size]? = some (sc x xa xc a2 c2)))
      case first =>
        go_region_held3 (fun W => W.cell? ⟨tb, 0, none⟩ = some (.int .i64 s.src) ∧ W.cell? ⟨tb, 1, none⟩ = some (.int .u32 (s.ses : Nat)) ∧ W.cell? ⟨tb, 2, none⟩ = some (.int .i64 s.tot) ∧ W.cell? ⟨tb, 3, none⟩ = some (.slice a s.byt.length c) ∧ W.cell? ⟨tb, 4, none⟩ = some (.slice g s.got.length d) ∧ W.cell? ⟨tb, 5, none⟩ = some (.int .u32 (s.ser : Nat)) ∧ W.cell? ⟨tb, 6, none⟩ = some (.int .i64 s.sta) ∧ W.cell? ⟨tb, 7, none⟩ = some (.int .i64 s.lif) ∧ W.cell? ⟨tb, 8, none⟩ = some (.int .i64 s.due) ∧ W.cell? ⟨w.heap.size, 0, none⟩ = some (.int .i64 x.knd) ∧ W.cell? ⟨w.heap.size, 1, none⟩ = some (.int .i64 x.src) ∧ W.cell? ⟨w.heap.size, 2, none⟩ = some (.int .u32 (x.ses : Nat)) ∧ W.cell? ⟨w.heap.size, 3, none⟩ = some (.int .u32 (x.ser : Nat)) ∧ W.cell? ⟨w.heap.size, 4, none⟩ = some (.int .u32 (x.cks : Nat)) ∧ W.cell? ⟨w.heap.size, 5, none⟩ = some (.int .i64 x.off) ∧ W.cell? ⟨w.heap.size, 6, none⟩ = some (.int .i64 x.tot) ∧ W.cell? ⟨w.heap.size, 7, none⟩ = some (.int .i64 x.low) ∧ W.cell? ⟨w.heap.size, 8, none⟩ = some (.int .i64 x.upp) ∧ W.cell? ⟨w.heap.size, 9, none⟩ = some (.int .i64 x.rea) ∧ W.cell? ⟨w.heap.size, 10, none⟩ = some (.bool x.chk) ∧ W.cell? ⟨w.heap.size, 11, none⟩ = some (.slice xa x.dat.length xc) ∧ W.cell? ⟨w.heap.size, 12, none⟩ = some (.slice a2 x.cls.length c2)) (first | exact hS0 | exact hS2) ((go_at_call 54; refine (HDIF.out _ (HB1.out.drew)).mono ?_; rintro e w2 ⟨rfl, hq⟩; have hS2 := takes_cells HP.out (below_of (HB1.out.drew) hq.out) (old_block hq.out HX1.out)))
        all_goals
          go_wp2
          go_meet
          case rel => exact ⟨rfl, below_of (HB1.out.drew) hq.out, old_block hq.out HX1.out⟩
      case rest =>
        obtain ⟨rfl, HC⟩ := hcut
        obtain ⟨ct, hct⟩ : ∃ ct, Hid (ct = sgcells x xa xc a2 c2) := ⟨_, rfl⟩
        have htz : (Try.prog.info? 28).map (·.size) = some ct.length := by rw [show ct.length = 13 by rw [hct.out]; rfl]; kernel_rfl
        have HRX : Hid (wc.rangeAt w.heap.size 0 ct) := by rw [hct.out]; exact sg_range HC.out.2
        have HPUT : Hid (∀ W, Below w.heap.size w W → Calls Try.prog 56 #[.pointer (some ⟨tb, 0, none⟩), .agg ct.toArray] W fun e w' => e = .returned (.tuple #[]) ∧ Hid (Left n W w' tb a (putK s x) [])) := fun W hb => by
          have h := HP.out.later hb
          have h1 := h.ok
          have h2 := h.dat
          have h3 := HTT.out
          rw [hct.out]
          exact vput_any n s a c g d tb x xa xc a2 c2 W h.tn h.row h.got.1 (by have := h.got.2; omega) (by omega) (by omega) (by omega) (by omega)
        clear hS0 HDIF t2 t6 x3 x6 x10
        cases D with
        | true =>
          rw [if_pos rfl] at HE
          go_wp2_with (go_at_call 55; refine (HLET.out _ HC.out.1).mono ?_; rintro e w1 ⟨rfl, hq⟩)
          have HF : Hid (Left n w w1 tb a R.1 R.2) := by rw [HE.out]; exact left_ahead HC.out.1 hq.out
          go_end0
          exact ⟨rfl, HF⟩
        | false =>
          rw [if_neg (by simp)] at HE
          cases hch : x.chk with
          | false =>
            rw [hch, if_neg (by simp)] at HE
            have x10 : ∀ W : World, W.heap[w.heap.size]? = some (sc x xa xc a2 c2) → W.cell? ⟨w.heap.size, 10, none⟩ = some (.bool false) := fun W h => by rw [← hch]; exact (x_get h).2.2
            have HX10 : Hid (∀ W : World, W.heap[w.heap.size]? = some (sc x xa xc a2 c2) → W.cell? ⟨w.heap.size, 10, none⟩ = some (.bool false)) := x10
            clear x10 hch
            go_wp2_with (first | (refine wpList_load_mid rfl 28 _ rfl w.heap.size 0 (by rfl) ct _ HRX.out Try.underlying28 rfl htz ?_) | (go_at_call 56; refine (HPUT.out _ HC.out.1).mono ?_; rintro e w1 ⟨rfl, hq⟩; have HX1' : Hid (w1.heap[w.heap.size]? = some (sc x xa xc a2 c2)) := left_box HP.out HC.out.1 HC.out.2 hq.out; have y10 := HX10.out w1 HX1'.out))
            have HF : Hid (Left n w w1 tb a R.1 R.2) := by rw [HE.out]; exact left_ahead HC.out.1 hq.out
            go_end0
            exact ⟨rfl, HF⟩
          | true =>
            rw [hch, if_pos rfl] at HE
            have HX10 : Hid (∀ W : World, W.heap[w.heap.size]? = some (sc x xa xc a2 c2) → W.cell? ⟨w.heap.size, 10, none⟩ = some (.bool true) ∧ W.cell? ⟨w.heap.size, 3, none⟩ = some (.int .u32 (x.ser : Nat))) := fun W h => ⟨by rw [← hch]; exact (x_get h).2.2, (x_get h).1⟩
            have HREP : Hid (∀ W, Left n wc W tb a (putK s x) [] → Calls Try.prog 57 #[.pointer (some ⟨tb, 0, none⟩), .int .u32 (x.ser : Nat)] W fun e w' => e = .returned (.tuple #[]) ∧ Hid (Left n wc w' tb a (serK (putK s x)) [repK (putK s x) x.ser])) := fun W hl => by
              obtain ⟨c1, g1, d1, v1, l1, l2, l3⟩ := hl
              subst l2
              have e1 := putK_got s x
              have e2 := tog_len s.got x.off x.dat.length
              have e3 := HP.out.got.2
              refine (vrep_any n (putK s x) a c1 g1 d1 tb x.ser W l1 (by rw [e1.2]; exact HP.out.ser) (by rw [e1.1]; omega) (by rw [e1.1]; omega)).mono ?_
              rintro e w' ⟨rfl, hr⟩
              obtain ⟨c3, g3, d3, v3, r1, r2, r3⟩ := hr.out
              exact ⟨rfl, c3, g3, d3, v3, r1, r2, l3.trans r3 (fun _ _ t => t)⟩
            clear hch
            go_wp2_with (first | (refine wpList_load_mid rfl 28 _ rfl w.heap.size 0 (by rfl) ct _ HRX.out Try.underlying28 rfl htz ?_) | (go_at_call 56; refine (HPUT.out _ HC.out.1).mono ?_; rintro e w1 ⟨rfl, hq⟩; have HX1' : Hid (w1.heap[w.heap.size]? = some (sc x xa xc a2 c2)) := left_box HP.out HC.out.1 HC.out.2 hq.out; have y10 := (HX10.out w1 HX1'.out).1; have y3 := (HX10.out w1 HX1'.out).2) | (go_at_call 57; refine (HREP.out _ hq.out).mono ?_; rintro e w2 ⟨rfl, hq2⟩))
            have HF : Hid (Left n w w2 tb a R.1 R.2) := by rw [HE.out]; exact left_ahead HC.out.1 hq2.out
            go_end0
            exact ⟨rfl, HF⟩
    · have hbt : (x.tot != s.tot) = true := by simpa using ht
      rw [if_pos ht] at HE
      go_enter Try.func32, Try.ntmps32
      go_wp2_with fail
      go_quiet (fail)
      have HBN : Hid (Below w.heap.size w ((w.alloc (sc x xa xc a2 c2)).drewN nq)) := below_drewN HB1.out nq
      go_wp2_with (go_at_call 55; refine (HLET.out _ HBN.out).mono ?_; rintro e w1 ⟨rfl, hq⟩)
      have HF : Hid (Left n w w1 tb a R.1 R.2) := by rw [HE.out]; exact left_ahead HBN.out hq.out
      go_end0
      exact ⟨rfl, HF⟩
end Go.Proofs.Ythmolodkaboakaa
