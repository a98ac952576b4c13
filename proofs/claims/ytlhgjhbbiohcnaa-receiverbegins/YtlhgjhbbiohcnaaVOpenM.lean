/- The reference's New. -/
import Derived.Test.YtlhgjhbbiohcnaaVRTkAM
import Derived.Test.YtlhgjhbbiohcnaaVNew2
import Derived.Deep.RegionHeld3
import Derived.Test.YtlhgjhbbiohcnaaVTake2
import Derived.Deep.CutRange
import Derived.Test.YtlhgjhbbiohcnaaVTake3
import Derived.Test.YtlhgjhbbiohcnaaVTakesM
import Derived.Test.YtlhgjhbbiohcnaaTCheck
import Derived.Test.YtlhgjhbbiohcnaaHOpen
import Derived.Deep.SlicePairs
import Derived.Test.YtlhgjhbbiohcnaaVMem
namespace Go.Proofs.Ytlhgjhbbiohcnaa
open Go.RowKit
set_option linter.unusedVariables false
theorem fresh_ok {x : Sg} {life : Int} (h1 : okS x = true) (h2 : x.knd = 1) (h3 : inB life 1 65536 = true) : okK (freshK x life) = true ∧ (1 ≤ x.tot ∧ x.tot ≤ 512) := by
  obtain ⟨hs, he, hf, _⟩ := okS_parts h1
  have hd : dataS x = true := by
    rcases kinds hf with ⟨_, h⟩ | ⟨h, _⟩ | ⟨h, _⟩ | ⟨h, _⟩ | h
    · exact h
    all_goals omega
  have ht := (dataS_of hd).1
  have hl := inB_of h3
  refine ⟨?_, ht⟩
  have e1 : numsK (freshK x life) = true := by
    unfold numsK inB freshK
    simp only [List.length_replicate]
    rw [decide_eq_true hs.1, decide_eq_true hs.2, decide_eq_true he, decide_eq_true ht.1, decide_eq_true ht.2, decide_eq_true (show ((x.tot.toNat : Nat) : Int) = x.tot by omega), decide_eq_true hl.1, decide_eq_true hl.2]
    rfl
  unfold okK
  rw [e1]
  have e2 : wholeK (freshK x life) = false := by unfold wholeK freshK; simp
  unfold stateK
  rw [if_pos (show (freshK x life).sta = 1 from rfl), e2]
  rfl
theorem tk_pos {s : Tk} {x : Sg} {now : Int} (hok : okK s = true) (h1 : okS x = true) : ∀ c ∈ (tkK s x now).1.got, 1 ≤ c.2 := by
  have hs := cls_pos (smallK hok).2.2.2.2.1
  have hg : ∀ t : Tk, t.got = tog s.got x.off x.dat.length → x.knd = 1 → x.tot = s.tot → ∀ c ∈ t.got, 1 ≤ c.2 := fun t e hk ht => by
    have hd : dataS x = true := by
      obtain ⟨_, _, hf, _⟩ := okS_parts h1
      rcases kinds hf with ⟨_, h⟩ | ⟨h, _⟩ | ⟨h, _⟩ | ⟨h, _⟩ | h
      · exact h
      all_goals omega
    rw [e]
    exact cls_pos (put_rows hok hd ht).2.2
  by_cases k1 : x.knd = 1
  · rw [tkK_1 k1]
    unfold datK
    split
    · exact hs
    · split
      · simp [goneK]
      · rename_i _ ht
        have ht2 : x.tot = s.tot := by simpa using ht
        split
        · simp [goneK]
        · split
          · refine hg _ ?_ k1 ht2
            show (putK _ x).got = _
            rw [(putK_got _ _).1]
          · refine hg _ ?_ k1 ht2
            rw [(putK_got _ _).1]
  · by_cases k4 : x.knd = 4
    · rw [tkK_4 k4]; exact hs
    · rw [tkK_0 k1 k4]; exact hs
theorem new_end {w W0 w5 : World} {X : Obj} {R : Tk × List Sg} {a : Option Addr} {c : Nat} {g : Option Addr} {d : Nat} {v : Value} {n : Nat} (hb : Below w.heap.size w W0) (hb5 : Below W0.heap.size W0 w5) (hz : w5.heap[w.heap.size + 1]? = some (kc zeroK none 0 none 0)) (hz0 : W0.heap[w.heap.size + 1]? = some X) (h1 : Row w5 a R.1.byt) (h2 : RowC w5 g R.1.got) (h3 : R.1.got.length ≤ 140737488351232) (hs : Sent n w5 v R.2) (hp : ∀ c ∈ R.1.got, 1 ≤ c.2) (hn : w.heap.size + 1 < n := by first | assumption | (simp; omega)) :
    (w5.setCells (w.heap.size + 1) 0 [.int .i64 R.1.src, .int .u32 (R.1.ses : Nat), .int .i64 R.1.tot, .slice a R.1.byt.length c, .slice g R.1.got.length d, .int .u32 (R.1.ser : Nat), .int .i64 R.1.sta, .int .i64 R.1.lif, .int .i64 R.1.due]).rangeAt (w.heap.size + 1) 0 [.int .i64 R.1.src, .int .u32 (R.1.ses : Nat), .int .i64 R.1.tot, .slice a R.1.byt.length c, .slice g R.1.got.length d, .int .u32 (R.1.ser : Nat), .int .i64 R.1.sta, .int .i64 R.1.lif, .int .i64 R.1.due] ∧
    Below w.heap.size w (w5.setCells (w.heap.size + 1) 0 [.int .i64 R.1.src, .int .u32 (R.1.ses : Nat), .int .i64 R.1.tot, .slice a R.1.byt.length c, .slice g R.1.got.length d, .int .u32 (R.1.ser : Nat), .int .i64 R.1.sta, .int .i64 R.1.lif, .int .i64 R.1.due]) ∧ Row (w5.setCells (w.heap.size + 1) 0 [.int .i64 R.1.src, .int .u32 (R.1.ses : Nat), .int .i64 R.1.tot, .slice a R.1.byt.length c, .slice g R.1.got.length d, .int .u32 (R.1.ser : Nat), .int .i64 R.1.sta, .int .i64 R.1.lif, .int .i64 R.1.due]) a R.1.byt ∧ RowC (w5.setCells (w.heap.size + 1) 0 [.int .i64 R.1.src, .int .u32 (R.1.ses : Nat), .int .i64 R.1.tot, .slice a R.1.byt.length c, .slice g R.1.got.length d, .int .u32 (R.1.ser : Nat), .int .i64 R.1.sta, .int .i64 R.1.lif, .int .i64 R.1.due]) g R.1.got ∧ R.1.got.length ≤ 140737488351232 ∧ Sent w.heap.size (w5.setCells (w.heap.size + 1) 0 [.int .i64 R.1.src, .int .u32 (R.1.ses : Nat), .int .i64 R.1.tot, .slice a R.1.byt.length c, .slice g R.1.got.length d, .int .u32 (R.1.ser : Nat), .int .i64 R.1.sta, .int .i64 R.1.lif, .int .i64 R.1.due]) v R.2 := by
  have ho := setC_off w5 (w.heap.size + 1) 0 [.int .i64 R.1.src, .int .u32 (R.1.ses : Nat), .int .i64 R.1.tot, .slice a R.1.byt.length c, .slice g R.1.got.length d, .int .u32 (R.1.ser : Nat), .int .i64 R.1.sta, .int .i64 R.1.lif, .int .i64 R.1.due]
  have hbb := below_of hb hb5
  exact ⟨range_cells (block_stored (zs := kcells zeroK none 0 none 0) hz rfl), hbb.trans (ho.below hbb.size (fun i e => by have : i = w.heap.size + 1 := e; omega)), h1.off ho (fun h0 b e t => res_byt hz h1 h0 b e t), h2.off ho (fun h0 b e t => res_got hz h2 h0 hp b e t), h3, (hs.off ho (fun k e => by have : k = w.heap.size + 1 := e; omega)).base (by omega)⟩
set_option maxRecDepth 20000 in
set_option maxHeartbeats 4000000 in
theorem rnew_any (x : Sg) (xa : Option Addr) (xc : Nat) (a2 : Option Addr) (c2 : Nat) (now life : Int) (w : World) (hx : Came w x xa xc a2 c2) (h1 : okS x = true) (h2 : x.knd = 1) (h3 : inB life 1 65536 = true) (hn : inB now 0 1048576 = true) :
    Calls Try.prog 19 #[sv x xa xc a2 c2, .int .i64 now, .int .i64 life] w fun e w' => RAns w w' e (tkK (freshK x life) x now) := by
  obtain ⟨hok, ht1, ht2⟩ := fresh_ok h1 h2 h3
  have hlf := inB_of h3
  have HX : Hid (Came w x xa xc a2 c2) := hx
  have HTK : Hid (∀ W gb, Below w.heap.size w W → W.heap[gb]? = some (.cells (cells (List.replicate x.tot.toNat 0)).toArray 5 (0, 0)) → Calls Try.prog 16 #[.agg #[.int .i64 x.src, .int .u32 (x.ses : Nat), .int .i64 x.tot, .slice (some ⟨gb, 0, none⟩) x.tot.toNat x.tot.toNat, .slice none 0 0, .int .u32 0, .int .i64 1, .int .i64 life, .int .i64 0], sv x xa xc a2 c2, .int .i64 now] W fun e w' => RAns W w' e (tkK (freshK x life) x now)) := fun W gb hb hg => by
    have el : (freshK x life).byt.length = x.tot.toNat := by simp [freshK]
    have hbs : Bs W gb (List.replicate x.tot.toNat 0) := ⟨hg, fun y hy => by rw [List.eq_of_mem_replicate hy]; omega, by simp [maxLen]; omega⟩
    have hc : CameK W (freshK x life) (some ⟨gb, 0, none⟩) x.tot.toNat none 0 := ⟨hbs.row, ⟨by simp [freshK], fun h => absurd h (by simp [freshK])⟩, ⟨by omega, by simp [maxLen]; omega⟩, ⟨by simp [freshK], by simp⟩, by omega, by simp [freshK], by simp [freshK], hx.fit.src, hx.fit.ses, hx.fit.tot, by simp [freshK], ⟨by simp [freshK], by simp [freshK]⟩, by show in64 life; unfold in64; omega, ⟨by simp [freshK], by simp [freshK]⟩⟩
    have := rtake_any (freshK x life) (some ⟨gb, 0, none⟩) x.tot.toNat none 0 x xa xc a2 c2 now W hc (hx.later hb) hok h1 hn
    unfold kv at this
    rw [el] at this
    exact this
  have HMK : ∀ W : World, (Instr.makeSlice 23 (.int .i64 x.tot) (.int .i64 x.tot)).run Try.prog W = .ok (.slice (some ⟨W.heap.size, 0, none⟩) x.tot.toNat x.tot.toNat) (W.alloc (.cells (cells (List.replicate x.tot.toNat 0)).toArray 5)) := fun W => by
    have := make_n x.tot.toNat (by omega) W
    rw [show ((x.tot.toNat : Nat) : Int) = x.tot by omega] at this
    exact this
  have HEN : Hid (EnN w ((w.alloc (.cells #[.int .i64 x.knd, .int .i64 x.src, .int .u32 (x.ses : Nat), .int .u32 (x.ser : Nat), .int .u32 (x.cks : Nat), .int .i64 x.off, .int .i64 x.tot, .int .i64 x.low, .int .i64 x.upp, .int .i64 x.rea, .bool x.chk, .slice xa x.dat.length xc, .slice a2 x.cls.length c2] 28)).alloc (.cells #[.int .i64 0, .int .u32 0, .int .i64 0, .slice none 0 0, .slice none 0 0, .int .u32 0, .int .i64 0, .int .i64 0, .int .i64 0] 26)) x xa xc a2 c2) := EnN.start w x xa xc a2 c2
  have HPO0 := tk_pos (now := now) hok h1
  clear hx h1 h2 h3 hn hok
  obtain ⟨R, hR⟩ : ∃ R, tkK (freshK x life) x now = R := ⟨_, rfl⟩
  rw [hR] at HTK HPO0 ⊢
  have HPO : Hid (∀ c ∈ R.1.got, 1 ≤ c.2) := HPO0
  clear hR HPO0
  go_enter Try.func19, Try.ntmps19
  go_wp2_with fail
  generalize hW0 : (w.alloc (.cells #[.int .i64 x.knd, .int .i64 x.src, .int .u32 (x.ses : Nat), .int .u32 (x.ser : Nat), .int .u32 (x.cks : Nat), .int .i64 x.off, .int .i64 x.tot, .int .i64 x.low, .int .i64 x.upp, .int .i64 x.rea, .bool x.chk, .slice xa x.dat.length xc, .slice a2 x.cls.length c2] 28)).alloc (.cells #[.int .i64 0, .int .u32 0, .int .i64 0, .slice none 0 0, .slice none 0 0, .int .u32 0, .int .i64 0, .int .i64 0, .int .i64 0] 26) = W0 at HEN ⊢
  clear hW0
  have HSS : Hid (∀ W', Off (fun i => i = w.heap.size + 1) W0 W' → W'.cell? ⟨w.heap.size, 0, none⟩ = some (.int .i64 x.knd) ∧ W'.cell? ⟨w.heap.size, 1, none⟩ = some (.int .i64 x.src) ∧ W'.cell? ⟨w.heap.size, 2, none⟩ = some (.int .u32 (x.ses : Nat)) ∧ W'.cell? ⟨w.heap.size, 3, none⟩ = some (.int .u32 (x.ser : Nat)) ∧ W'.cell? ⟨w.heap.size, 4, none⟩ = some (.int .u32 (x.cks : Nat)) ∧ W'.cell? ⟨w.heap.size, 5, none⟩ = some (.int .i64 x.off) ∧ W'.cell? ⟨w.heap.size, 6, none⟩ = some (.int .i64 x.tot) ∧ W'.cell? ⟨w.heap.size, 7, none⟩ = some (.int .i64 x.low) ∧ W'.cell? ⟨w.heap.size, 8, none⟩ = some (.int .i64 x.upp) ∧ W'.cell? ⟨w.heap.size, 9, none⟩ = some (.int .i64 x.rea) ∧ W'.cell? ⟨w.heap.size, 10, none⟩ = some (.bool x.chk) ∧ W'.cell? ⟨w.heap.size, 11, none⟩ = some (.slice xa x.dat.length xc) ∧ W'.cell? ⟨w.heap.size, 12, none⟩ = some (.slice a2 x.cls.length c2)) := fun W' ho => scells (ho.at HEN.out.one (fun e => by have : w.heap.size = w.heap.size + 1 := e; omega))
  have HX0 : Hid (Below w.heap.size w W0.drew) := HEN.out.bel.drew
  have HX1 : Hid (∀ X, Below w.heap.size w (W0.alloc X).drew) := fun X => (HEN.out.bel.alloc HEN.out.bel.size X).drew
  have HO1 : Hid (∀ X, Off (fun i => i = w.heap.size + 1) W0 (W0.alloc X).drew) := fun X => ((Off.refl _ _).alloc X).drew
  go_region_held3 (fun W' => W'.cell? ⟨w.heap.size, 0, none⟩ = some (.int .i64 x.knd) ∧ W'.cell? ⟨w.heap.size, 1, none⟩ = some (.int .i64 x.src) ∧ W'.cell? ⟨w.heap.size, 2, none⟩ = some (.int .u32 (x.ses : Nat)) ∧ W'.cell? ⟨w.heap.size, 3, none⟩ = some (.int .u32 (x.ser : Nat)) ∧ W'.cell? ⟨w.heap.size, 4, none⟩ = some (.int .u32 (x.cks : Nat)) ∧ W'.cell? ⟨w.heap.size, 5, none⟩ = some (.int .i64 x.off) ∧ W'.cell? ⟨w.heap.size, 6, none⟩ = some (.int .i64 x.tot) ∧ W'.cell? ⟨w.heap.size, 7, none⟩ = some (.int .i64 x.low) ∧ W'.cell? ⟨w.heap.size, 8, none⟩ = some (.int .i64 x.upp) ∧ W'.cell? ⟨w.heap.size, 9, none⟩ = some (.int .i64 x.rea) ∧ W'.cell? ⟨w.heap.size, 10, none⟩ = some (.bool x.chk) ∧ W'.cell? ⟨w.heap.size, 11, none⟩ = some (.slice xa x.dat.length xc) ∧ W'.cell? ⟨w.heap.size, 12, none⟩ = some (.slice a2 x.cls.length c2)) ((refine HSS.out _ ?_; repeat (with_reducible first | exact HO2.out | exact HO1.out _ | exact Off.refl _ _ | refine Off.drew ?_ | refine Off.alloc ?_ _ | refine off_set ?_ _ _))) (first
    | (go_at_call 16; refine (HTK.out _ W0.heap.size (HX1.out _) (old_block (Below.refl _ _).drew (heap_alloc_new W0 _))).mono ?_; rintro e w5 ⟨a5, c5, g5, d5, v5, rfl, hb5, hr5, hg5, hz5, hs5⟩; have HB5 : Hid (Below W0.heap.size W0 w5) := below_of (((Below.refl _ _).alloc (Nat.le_refl _) _).drew) hb5; have HO2 : Hid (Off (fun i => i = w.heap.size + 1) W0 w5) := Off.of_below HB5.out; have ZB : Hid (w5.heap[w.heap.size + 1]? = some (kc zeroK none 0 none 0)) := old_block HB5.out HEN.out.res; obtain ⟨z0, z1, z2, z3, z4, z5, z6, z7, z8⟩ := kcells_get ZB.out; have zf := frozen_of ZB.out))
  have hs9 : (Try.prog.info? 26).map (·.size) = some 9 := by kernel_rfl
  have HM : Hid _ := new_end (c := c5) (d := d5) HEN.out.bel HB5.out ZB.out HEN.out.res hr5 hg5 hz5 hs5 HPO.out (by have := (Array.getElem?_eq_some_iff.1 HEN.out.res).1; simp; omega)
  clear HSS HX0 HX1 HO1 HO2 HTK HMK z0 z1 z2 z3 z4 z5 z6 z7 z8 zf
  go_wp2
  exact bodyPost_ret (results_cell2 rfl _ _ (w.heap.size + 1) 0 (by rfl) [.int .i64 R.1.src, .int .u32 (R.1.ses : Nat), .int .i64 R.1.tot, .slice a5 R.1.byt.length c5, .slice g5 R.1.got.length d5, .int .u32 (R.1.ser : Nat), .int .i64 R.1.sta, .int .i64 R.1.lif, .int .i64 R.1.due] _ HM.out.1 Try.underlying26 rfl hs9) rfl ⟨a5, c5, g5, d5, v5, rfl, HM.out.2⟩
end Go.Proofs.Ytlhgjhbbiohcnaa
/- The reference's Tick. -/
namespace Go.Proofs.Ytlhgjhbbiohcnaa
open Go.RowKit
set_option linter.unusedVariables false
set_option maxRecDepth 20000 in
set_option maxHeartbeats 4000000 in
theorem rtick_w (s : Tk) (a : Option Addr) (c : Nat) (g : Option Addr) (d : Nat) (now : Int) (w : World) (h1 : decide (now < s.due) = true) :
    Calls Try.prog 21 #[kv s a c g d, .int .i64 now] w fun e w' => e = .returned (.tuple #[.agg (kcells s a c g d).toArray, .slice none 0 0]) ∧ Hid (Below w.heap.size w w') := by
  have HB : Hid (∀ X Y : Obj, Below w.heap.size w ((w.alloc X).alloc Y)) := fun X Y => ((Below.refl _ w).alloc (Nat.le_refl _) X).alloc (by simp) Y
  go_enter Try.func21, Try.ntmps21
  go_wp2
  all_goals
    refine bodyPost_ret (v := .tuple #[.agg (kcells s a c g d).toArray, .slice none 0 0]) (by simp [results, Try.results21, go_sem]) rfl ⟨rfl, ?_⟩
    first | exact HB.out _ _ | exact below_drewN (HB.out _ _) _ | exact (HB.out _ _).drew | exact (HB.out _ _).drew.drew
set_option maxRecDepth 20000 in
set_option maxHeartbeats 4000000 in
theorem rtick_v (s : Tk) (a : Option Addr) (c : Nat) (g : Option Addr) (d : Nat) (now : Int) (w : World) (h1 : decide (now < s.due) = false) (h4 : (s.sta == 4) = true) :
    Calls Try.prog 21 #[kv s a c g d, .int .i64 now] w fun e w' => e = .returned (.tuple #[.agg (kcells s a c g d).toArray, .slice none 0 0]) ∧ Hid (Below w.heap.size w w') := by
  have HB : Hid (∀ X Y : Obj, Below w.heap.size w ((w.alloc X).alloc Y)) := fun X Y => ((Below.refl _ w).alloc (Nat.le_refl _) X).alloc (by simp) Y
  go_enter Try.func21, Try.ntmps21
  go_wp2
  all_goals
    refine bodyPost_ret (v := .tuple #[.agg (kcells s a c g d).toArray, .slice none 0 0]) (by simp [results, Try.results21, go_sem]) rfl ⟨rfl, ?_⟩
    first | exact HB.out _ _ | exact below_drewN (HB.out _ _) _ | exact (HB.out _ _).drew | exact (HB.out _ _).drew.drew
set_option maxRecDepth 20000 in
set_option maxHeartbeats 4000000 in
theorem rtick_o (s : Tk) (a : Option Addr) (c : Nat) (g : Option Addr) (d : Nat) (now : Int) (w : World) (h1 : decide (now < s.due) = false) (h4 : (s.sta == 4) = false) (h5 : (s.sta == 1) = false) :
    Calls Try.prog 21 #[kv s a c g d, .int .i64 now] w fun e w' => e = .returned (.tuple #[.agg (kcells { s with sta := 4 } a c g d).toArray, .slice none 0 0]) ∧ Hid (Below w.heap.size w w') := by
  have HB : Hid (∀ X Y : Obj, Below w.heap.size w ((w.alloc X).alloc Y)) := fun X Y => ((Below.refl _ w).alloc (Nat.le_refl _) X).alloc (by simp) Y
  go_enter Try.func21, Try.ntmps21
  go_wp2
  all_goals
    refine bodyPost_ret (v := .tuple #[.agg (kcells { s with sta := 4 } a c g d).toArray, .slice none 0 0]) (by simp [results, Try.results21, go_sem]) rfl ⟨rfl, ?_⟩
    first | exact HB.out _ _ | exact below_drewN (HB.out _ _) _ | exact (HB.out _ _).drew | exact (HB.out _ _).drew.drew
set_option maxRecDepth 20000 in
set_option maxHeartbeats 4000000 in
theorem rtick_s (s : Tk) (a : Option Addr) (c : Nat) (g : Option Addr) (d : Nat) (now : Int) (w : World) (h1 : decide (now < s.due) = false) (h5 : (s.sta == 1) = true) (h4 : (s.sta == 4) = false) :
    Calls Try.prog 21 #[kv s a c g d, .int .i64 now] w fun e w' => ∃ gg, e = .returned (.tuple #[.agg (kcells { s with sta := 4 } a c g d).toArray, .slice (some ⟨gg, 0, none⟩) 1 1]) ∧ Hid (Below w.heap.size w w' ∧ w.heap.size ≤ gg ∧ w'.rangeAt gg 0 (sgcells ⟨6, s.src, s.ses, 0, 0, 0, 0, 0, 0, 4, false, [], []⟩ none 0 none 0)) := by
  have HB : Hid (∀ X Y : Obj, Below w.heap.size w ((w.alloc X).alloc Y)) := fun X Y => ((Below.refl _ w).alloc (Nat.le_refl _) X).alloc (by simp) Y
  go_enter Try.func21, Try.ntmps21
  have HF : Hid (∀ X Y : Obj, Below w.heap.size w (((w.alloc X).alloc Y).alloc (sc ⟨6, s.src, s.ses, 0, 0, 0, 0, 0, 0, 4, false, [], []⟩ none 0 none 0)) ∧ w.heap.size ≤ w.heap.size + 1 + 1 ∧ (((w.alloc X).alloc Y).alloc (sc ⟨6, s.src, s.ses, 0, 0, 0, 0, 0, 0, 4, false, [], []⟩ none 0 none 0)).rangeAt (w.heap.size + 1 + 1) 0 (sgcells ⟨6, s.src, s.ses, 0, 0, 0, 0, 0, 0, 4, false, [], []⟩ none 0 none 0)) := fun X Y => by
    refine ⟨((HB.out X Y).alloc (by simp; omega) _), by omega, ?_⟩
    have h := heap_alloc_new ((w.alloc X).alloc Y) (sc ⟨6, s.src, s.ses, 0, 0, 0, 0, 0, 0, 4, false, [], []⟩ none 0 none 0)
    rw [show ((w.alloc X).alloc Y).heap.size = w.heap.size + 1 + 1 by simp] at h
    exact sg_range h
  go_wp2
  all_goals
    refine bodyPost_ret (v := .tuple #[.agg (kcells { s with sta := 4 } a c g d).toArray, .slice (some ⟨w.heap.size + 1 + 1, 0, none⟩) 1 1]) (by simp [results, Try.results21, go_sem]) rfl ⟨_, rfl, ?_⟩
    exact HF.out _ _
end Go.Proofs.Ytlhgjhbbiohcnaa
/- receiver.Tick. -/
namespace Go.Proofs.Ytlhgjhbbiohcnaa
open Go.RowKit
set_option linter.unusedVariables false
/-- what becomes of a session when a moment comes, and what is sent. -/
def tiK (s : Tk) (now : Int) : Tk × List Sg := if s.due ≤ now then ({ s with sta := 4 }, if s.sta = 1 then [⟨6, s.src, s.ses, 0, 0, 0, 0, 0, 0, 4, false, [], []⟩] else []) else (s, [])
/-- what Tick answers. -/
def tickK (s : Tk) (now : Int) : Tk × List Sg × Int :=
  if okK s = true then (if inB now 0 1048576 = true then ((tiK s now).1, (tiK s now).2, 0) else (zeroK, [], 2)) else (zeroK, [], 250)
/-- the world behind Tick's entry. -/
structure EnT (w W : World) (s : Tk) (a : Option Addr) (c : Nat) (g : Option Addr) (d : Nat) : Prop where
  bel : Below w.heap.size w W
  res : W.heap[w.heap.size + 1]? = some (kc zeroK none 0 none 0)
theorem EnT.start (w : World) (s : Tk) (a : Option Addr) (c : Nat) (g : Option Addr) (d : Nat) : EnT w ((w.alloc (kc s a c g d)).alloc (kc zeroK none 0 none 0)) s a c g d :=
  ⟨below_of ((Below.refl _ w).alloc (Nat.le_refl _) _) ((Below.refl _ _).alloc (Nat.le_refl _) _), second_new w _ _⟩
theorem EnT.later {w W W' : World} {s : Tk} {a : Option Addr} {c : Nat} {g : Option Addr} {d : Nat} (h : EnT w W s a c g d) (hb : Below W.heap.size W W') : EnT w W' s a c g d := ⟨below_of h.bel hb, old_block hb h.res⟩
/-- a turn of Tick at its end. -/
structure FinT (w w5 : World) (n tb : Nat) (s : Tk) (a : Option Addr) (c : Nat) (g : Option Addr) (d : Nat) (v : Value) (l : List Sg) : Prop where
  tn : Tn n w5 tb s a c g d v
  sent : Sent n w5 v l
  bel : Below w.heap.size w w5
  res : w5.heap[w.heap.size + 1]? = some (kc zeroK none 0 none 0)
  n3 : w.heap.size + 2 ≤ n
  t3 : w.heap.size + 2 ≤ tb
theorem FinT.cell9 {w w5 : World} {n tb : Nat} {s : Tk} {a : Option Addr} {c : Nat} {g : Option Addr} {d : Nat} {v : Value} {l : List Sg} (h : FinT w w5 n tb s a c g d v l) (cs : List Value) : w5.cell? ⟨tb, 9, none⟩ = some v ∧ (w5.drew.setCells (w.heap.size + 1) 0 cs).cell? ⟨tb, 9, none⟩ = some v := by
  have h9 := (tc_get h.tn.here).2.2.2.2.2.2.2.2.2
  have ho := setC_off w5.drew (w.heap.size + 1) 0 cs
  have := h.t3
  exact ⟨h9, ho.cell (p := ⟨tb, 9, none⟩) h9 (by show ¬ (tb = _); omega)⟩
theorem FinT.stores {w w5 : World} {n tb : Nat} {s : Tk} {a : Option Addr} {c : Nat} {g : Option Addr} {d : Nat} {v : Value} {l : List Sg} (h : FinT w w5 n tb s a c g d v l) {cs : List Value} (hcs : cs = kcells s a c g d) :
    w5.drew.rangeAt tb 0 cs ∧ w5.drew.there (w.heap.size + 1) 0 cs.toArray.size ∧ cs.toArray.all (·.oneCell') = true ∧ (w5.drew.setCells (w.heap.size + 1) 0 cs).rangeAt (w.heap.size + 1) 0 cs ∧ Ans w (w5.drew.setCells (w.heap.size + 1) 0 cs) (.returned (.tuple #[.agg cs.toArray, v, .int .i64 0])) (s, l, 0) := by
  subst hcs
  have hf : Tn n w5.drew tb s a c g d v := h.tn.off (S := fun _ => False) (Off.refl _ w5).drew (fun _ t => t.elim) id
  have hs : Sent n w5.drew v l := h.sent.off (S := fun _ => False) (Off.refl _ w5).drew (fun _ t => t.elim)
  have ho := setC_off w5.drew (w.heap.size + 1) 0 (kcells s a c g d)
  have n3 := h.n3
  exact ⟨t_range9 hf.here, k_there h.res, k_one _ _ _ _ _, k_range (block_stored (zs := kcells zeroK none 0 none 0) h.res rfl), a, c, g, d, v, rfl, h.bel.drew.trans (ho.below h.bel.size (fun i e => by have : i = w.heap.size + 1 := e; omega)), (hf.kn.off ho (fun k e => by have : k = w.heap.size + 1 := e; omega)).base (by omega), (hs.off ho (fun k e => by have : k = w.heap.size + 1 := e; omega)).base (by omega)⟩
theorem finT_of {w W w1 : World} {s : Tk} {a : Option Addr} {c : Nat} {g : Option Addr} {d : Nat} {a' : Option Addr} {c' : Nat} {g' : Option Addr} {d' : Nat} (h : EnT w W s a c g d) (hq : Below W.heap.size W w1 ∧ KN W.heap.size w1 s a' c' g' d') : FinT w (w1.alloc (tc s a' c' g' d' (.slice none 0 0))) W.heap.size w1.heap.size s a' c' g' d' (.slice none 0 0) [] := by
  have hb1 : Below w1.heap.size w1 (w1.alloc (tc s a' c' g' d' (.slice none 0 0))) := (Below.refl _ w1).alloc (Nat.le_refl _) _
  have h2 := (h.later hq.1).later hb1
  have hsz := size_two h.res
  exact ⟨⟨heap_alloc_new w1 _, hq.2.later hb1, by simp, Nat.le_trans hq.1.size hb1.size⟩, rfl, h2.bel, h2.res, hsz, Nat.le_trans hsz hq.1.size⟩
theorem FinT.sta {w w5 : World} {n tb : Nat} {s : Tk} {a : Option Addr} {c : Nat} {g : Option Addr} {d : Nat} {v : Value} {l : List Sg} (h : FinT w w5 n tb s a c g d v l) (hl : ∀ x ∈ l, x.cls = []) (q : Int) : FinT w (w5.setCell ⟨tb, 6, none⟩ (.int .i64 q)) n tb { s with sta := q } a c g d v l := by
  obtain ⟨h1, h2⟩ := sta_set h.tn q
  have t3 := h.t3
  refine ⟨h1, ?_, h.bel.trans (h2.below h.bel.size (fun i e => by have : i = tb := e; omega)), h2.at h.res (by show ¬ (_ = _); omega), h.n3, h.t3⟩
  cases l with
  | nil => exact h.sent
  | cons x r =>
    obtain ⟨h0, g2, cap, b2, c2, k1, k2, k3, k4, k5, k6, k7⟩ := h.sent
    refine ⟨h0, g2, cap, b2, c2, k1, k2, fun j u hu => h2.cell (k3 j u hu) (fun t => ?_), k4, ⟨k5.1, fun hp => ?_⟩, k6, k7⟩
    · have e : g2 = tb := t
      have := k3 12 _ rfl
      rw [Nat.zero_add, e, cell_of h.tn.here] at this
      simp at this
    · rw [hl x List.mem_cons_self] at hp
      exact absurd hp (by simp)
theorem FinT.said {w w4 w5 : World} {n tb : Nat} {s : Tk} {a : Option Addr} {c : Nat} {g : Option Addr} {d : Nat} {X : Sg} (h : FinT w w4 n tb s a c g d (.slice none 0 0) []) (k : Said w4 w5 tb s a c g d X none 0 none 0) (hx : X.dat = []) (hy : X.cls = []) : ∃ v5, FinT w w5 n tb s a c g d v5 [X] := by
  obtain ⟨g2, cap, k1, k2, k3, k4, k5, k6⟩ := k
  have t3 := h.t3
  refine ⟨_, ⟨k1, h.tn.kn.keep h.tn.here k3, Nat.lt_of_lt_of_le h.tn.lt k3.size, Nat.le_trans h.tn.le k3.size⟩, ⟨rfl, g2, cap, none, 0, rfl, Nat.le_trans h.tn.le k4, k2, hx, (by rw [hy]; exact ⟨by simp, fun h => absurd h (by simp)⟩), (fun bb e => by cases e), (by rw [hy]; simp), (by simp), k5, k6⟩, h.bel.trans (k3.below h.bel.size (fun i e => by have : i = tb := e; omega)), k3.at h.res (by show ¬ (_ = _); omega), h.n3, h.t3⟩
set_option maxRecDepth 20000 in
set_option maxHeartbeats 4000000 in
theorem vtick_no (s : Tk) (a : Option Addr) (c : Nat) (g : Option Addr) (d : Nat) (now : Int) (w : World) (q : Int) (hq : (q != 0) = true)
    (hbg : ∀ W, Below w.heap.size w W → Calls Try.prog 31 #[kv s a c g d, .int .i64 now] W fun e w' => e = .returned (.tuple #[.agg (tcs zeroK none 0 none 0 (.slice none 0 0)).toArray, .int .i64 q]) ∧ Hid (Below W.heap.size W w')) :
    Calls Try.prog 20 #[kv s a c g d, .int .i64 now] w fun e w' => Ans w w' e (zeroK, [], q) := by
  have HBG : Hid (∀ W, Below w.heap.size w W → Calls Try.prog 31 #[kv s a c g d, .int .i64 now] W fun e w' => e = .returned (.tuple #[.agg (tcs zeroK none 0 none 0 (.slice none 0 0)).toArray, .int .i64 q]) ∧ Hid (Below W.heap.size W w')) := hbg
  have HEN : Hid (EnT w ((w.alloc (kc s a c g d)).alloc (kc zeroK none 0 none 0)) s a c g d) := EnT.start w s a c g d
  have hs9 : (Try.prog.info? 26).map (·.size) = some 9 := by kernel_rfl
  clear hbg
  go_enter Try.func20, Try.ntmps20
  go_wp2_with (first | (go_at_call 31; refine (HBG.out _ HEN.out.bel).mono ?_; rintro e w1 ⟨rfl, hb1⟩; have HE2 : Hid (EnT w (w1.alloc (tc zeroK none 0 none 0 (.slice none 0 0))) s a c g d) := (HEN.out.later hb1.out).later ((Below.refl _ w1).alloc (Nat.le_refl _) _); have HZ := res_store HE2.out.res HE2.out.bel (by omega) zeroK none 0 none 0) | (refine wpList_store_mid rfl 26 _ _ rfl (w.heap.size + 1) 0 (kcells zeroK none 0 none 0).toArray (by rfl) (by rfl) HZ.1.out hs9 HZ.2.1.out ?_))
  have HF := ans_zero (q := q) HZ.2.2.2.out.1
  exact bodyPost_ret (results_cell3 rfl _ _ (w.heap.size + 1) 0 (by rfl) (kcells zeroK none 0 none 0) _ HZ.2.2.1.out Try.underlying26 rfl hs9) rfl (by
    show Ans w _ (.returned (.tuple #[.agg (kcells zeroK none 0 none 0).toArray, .slice none 0 0, .int .i64 q])) _
    exact HF)
set_option maxRecDepth 20000 in
set_option maxHeartbeats 4000000 in
theorem vtick_w (s : Tk) (a : Option Addr) (c : Nat) (g : Option Addr) (d : Nat) (now : Int) (w : World) (hc : CameK w s a c g d) (hok : okK s = true) (hn : inB now 0 1048576 = true) (hd : now < s.due) :
    Calls Try.prog 20 #[kv s a c g d, .int .i64 now] w fun e w' => Ans w w' e (s, [], 0) := by
  have HBG : Hid (∀ W, Below w.heap.size w W → Calls Try.prog 31 #[kv s a c g d, .int .i64 now] W fun e w' => ∃ a' c' g' d', e = .returned (.tuple #[.agg (tcs s a' c' g' d' (.slice none 0 0)).toArray, .int .i64 0]) ∧ Hid (Below W.heap.size W w' ∧ KN W.heap.size w' s a' c' g' d')) := fun W hb => vbegin_ok s a c g d now W (hc.later hb) hok hn
  have HEN : Hid (EnT w ((w.alloc (kc s a c g d)).alloc (kc zeroK none 0 none 0)) s a c g d) := EnT.start w s a c g d
  have hs9 : (Try.prog.info? 26).map (·.size) = some 9 := by kernel_rfl
  clear hc hok hn
  go_enter Try.func20, Try.ntmps20
  go_wp2_with (go_at_call 31; refine (HBG.out _ HEN.out.bel).mono ?_; rintro e w1 ⟨a', c', g', d', rfl, hq⟩; have HF2 : Hid (FinT w (w1.alloc (tc s a' c' g' d' (.slice none 0 0))) ((w.alloc (kc s a c g d)).alloc (kc zeroK none 0 none 0)).heap.size w1.heap.size s a' c' g' d' (.slice none 0 0) []) := finT_of HEN.out hq.out; obtain ⟨_, _, _, _, _, _, k6, _, k8, _⟩ := tc_get HF2.out.tn.here; have ff := frozen_of HF2.out.tn.here)
  have HFI := HF2
  generalize w1.alloc (tc s a' c' g' d' (.slice none 0 0)) = W5 at HFI ⊢
  clear HBG HEN HF2 hq k6 k8 ff
  obtain ⟨cs, hcs⟩ : ∃ cs, Hid (cs = kcells s a' c' g' d') := ⟨_, rfl⟩
  obtain ⟨r1, r2, r3, r4, r5⟩ := HFI.out.stores hcs.out
  obtain ⟨q1, q2⟩ := HFI.out.cell9 cs
  have HR1 : Hid (W5.drew.rangeAt w1.heap.size 0 cs) := r1
  have HR4 : Hid ((W5.drew.setCells (w.heap.size + 1) 0 cs).rangeAt (w.heap.size + 1) 0 cs) := r4
  have HAN : Hid (Ans w (W5.drew.setCells (w.heap.size + 1) 0 cs) (.returned (.tuple #[.agg cs.toArray, (.slice none 0 0), .int .i64 0])) (s, [], 0)) := r5
  have hl9 : cs.length = 9 := by rw [hcs.out]; rfl
  have hsz1 : (Try.prog.info? 26).map (·.size) = some cs.length := by rw [hl9]; exact hs9
  have hsz2 : (Try.prog.info? 26).map (·.size) = some cs.toArray.size := by rw [show cs.toArray.size = 9 from hl9]; exact hs9
  clear r1 r4 r5
  refine wp_region_any (by kernel_rfl) ?_
  change wpAny _ _ _ _ _ _ _ (World.drew _)
  refine wpAny_ready (rs := [0, 2]) (by kernel_rfl) (by simp) ?_
  refine AllReady.cons rfl (fun K hK => ?_) (AllReady.cons rfl (fun K hK => ?_) AllReady.nil)
  · skip
    go_simp
    refine hK _ _ ?_
    clear hK K
    refine wpAny_ready (rs := [1, 2]) (by kernel_rfl) (by simp) ?_
    refine AllReady.cons rfl (fun K hK => ?_) (AllReady.cons rfl (fun K hK => ?_) AllReady.nil)
    · skip
      refine step_load (by rfl) 26 _ rfl w1.heap.size 0 (by rfl) cs _ HR1.out Try.underlying26 rfl hsz1 ?_
      refine hK _ _ ?_
      clear hK K
      refine wpAny_ready (rs := [2, 4]) (by kernel_rfl) (by simp) ?_
      refine AllReady.cons rfl (fun K hK => ?_) (AllReady.cons rfl (fun K hK => ?_) AllReady.nil)
      · skip
        go_simp
        refine hK _ _ ?_
        clear hK K
        refine wpAny_ready (rs := [3, 4]) (by kernel_rfl) (by simp) ?_
        refine AllReady.cons rfl (fun K hK => ?_) (AllReady.cons rfl (fun K hK => ?_) AllReady.nil)
        · skip
          go_simp
          refine hK _ _ ?_
          clear hK K
          refine wpAny_ready (rs := [4]) (by kernel_rfl) (by simp) ?_
          refine AllReady.cons rfl (fun K hK => ?_) AllReady.nil
          · skip
            refine step_store (by rfl) 26 _ _ rfl (w.heap.size + 1) 0 cs.toArray (by rfl) (by rfl) r2 hsz2 r3 ?_
            refine hK _ _ ?_
            clear hK K
            refine wpAny_ready (rs := [5]) (by kernel_rfl) (by simp) ?_
            refine AllReady.cons rfl (fun K hK => ?_) AllReady.nil
            · skip
              go_simp
              refine hK _ _ ?_
              clear hK K
              refine wpAny_ready (rs := [6]) (by kernel_rfl) (by simp) ?_
              refine AllReady.cons rfl (fun K hK => ?_) AllReady.nil
              · skip
                go_simp
                refine hK _ _ ?_
                clear hK K
                refine wpAny_done (by kernel_rfl) ?_ _
                go_wp2
                exact bodyPost_ret (results_cell3 rfl _ _ (w.heap.size + 1) 0 (by rfl) cs _ HR4.out Try.underlying26 rfl hsz1) rfl (by
                  show Ans w _ (.returned (.tuple #[.agg cs.toArray, (.slice none 0 0), .int .i64 0])) _
                  exact HAN.out)
        · skip
          refine step_store (by rfl) 26 _ _ rfl (w.heap.size + 1) 0 cs.toArray (by rfl) (by rfl) r2 hsz2 r3 ?_
          refine hK _ _ ?_
          clear hK K
          refine wpAny_ready (rs := [3]) (by kernel_rfl) (by simp) ?_
          refine AllReady.cons rfl (fun K hK => ?_) AllReady.nil
          · skip
            go_simp
            refine hK _ _ ?_
            clear hK K
            refine wpAny_ready (rs := [5]) (by kernel_rfl) (by simp) ?_
            refine AllReady.cons rfl (fun K hK => ?_) AllReady.nil
            · skip
              go_simp
              refine hK _ _ ?_
              clear hK K
              refine wpAny_ready (rs := [6]) (by kernel_rfl) (by simp) ?_
              refine AllReady.cons rfl (fun K hK => ?_) AllReady.nil
              · skip
                go_simp
                refine hK _ _ ?_
                clear hK K
                refine wpAny_done (by kernel_rfl) ?_ _
                go_wp2
                exact bodyPost_ret (results_cell3 rfl _ _ (w.heap.size + 1) 0 (by rfl) cs _ HR4.out Try.underlying26 rfl hsz1) rfl (by
                  show Ans w _ (.returned (.tuple #[.agg cs.toArray, (.slice none 0 0), .int .i64 0])) _
                  exact HAN.out)
      · skip
        refine step_store (by rfl) 26 _ _ rfl (w.heap.size + 1) 0 cs.toArray (by rfl) (by rfl) r2 hsz2 r3 ?_
        refine hK _ _ ?_
        clear hK K
        refine wpAny_ready (rs := [2]) (by kernel_rfl) (by simp) ?_
        refine AllReady.cons rfl (fun K hK => ?_) AllReady.nil
        · skip
          go_simp
          refine hK _ _ ?_
          clear hK K
          refine wpAny_ready (rs := [3]) (by kernel_rfl) (by simp) ?_
          refine AllReady.cons rfl (fun K hK => ?_) AllReady.nil
          · skip
            go_simp
            refine hK _ _ ?_
            clear hK K
            refine wpAny_ready (rs := [5]) (by kernel_rfl) (by simp) ?_
            refine AllReady.cons rfl (fun K hK => ?_) AllReady.nil
            · skip
              go_simp
              refine hK _ _ ?_
              clear hK K
              refine wpAny_ready (rs := [6]) (by kernel_rfl) (by simp) ?_
              refine AllReady.cons rfl (fun K hK => ?_) AllReady.nil
              · skip
                go_simp
                refine hK _ _ ?_
                clear hK K
                refine wpAny_done (by kernel_rfl) ?_ _
                go_wp2
                exact bodyPost_ret (results_cell3 rfl _ _ (w.heap.size + 1) 0 (by rfl) cs _ HR4.out Try.underlying26 rfl hsz1) rfl (by
                  show Ans w _ (.returned (.tuple #[.agg cs.toArray, (.slice none 0 0), .int .i64 0])) _
                  exact HAN.out)
    · skip
      go_simp
      refine hK _ _ ?_
      clear hK K
      refine wpAny_ready (rs := [1, 3]) (by kernel_rfl) (by simp) ?_
      refine AllReady.cons rfl (fun K hK => ?_) (AllReady.cons rfl (fun K hK => ?_) AllReady.nil)
      · skip
        refine step_load (by rfl) 26 _ rfl w1.heap.size 0 (by rfl) cs _ HR1.out Try.underlying26 rfl hsz1 ?_
        refine hK _ _ ?_
        clear hK K
        refine wpAny_ready (rs := [3, 4]) (by kernel_rfl) (by simp) ?_
        refine AllReady.cons rfl (fun K hK => ?_) (AllReady.cons rfl (fun K hK => ?_) AllReady.nil)
        · skip
          go_simp
          refine hK _ _ ?_
          clear hK K
          refine wpAny_ready (rs := [4]) (by kernel_rfl) (by simp) ?_
          refine AllReady.cons rfl (fun K hK => ?_) AllReady.nil
          · skip
            refine step_store (by rfl) 26 _ _ rfl (w.heap.size + 1) 0 cs.toArray (by rfl) (by rfl) r2 hsz2 r3 ?_
            refine hK _ _ ?_
            clear hK K
            refine wpAny_ready (rs := [5]) (by kernel_rfl) (by simp) ?_
            refine AllReady.cons rfl (fun K hK => ?_) AllReady.nil
            · skip
              go_simp
              refine hK _ _ ?_
              clear hK K
              refine wpAny_ready (rs := [6]) (by kernel_rfl) (by simp) ?_
              refine AllReady.cons rfl (fun K hK => ?_) AllReady.nil
              · skip
                go_simp
                refine hK _ _ ?_
                clear hK K
                refine wpAny_done (by kernel_rfl) ?_ _
                go_wp2
                exact bodyPost_ret (results_cell3 rfl _ _ (w.heap.size + 1) 0 (by rfl) cs _ HR4.out Try.underlying26 rfl hsz1) rfl (by
                  show Ans w _ (.returned (.tuple #[.agg cs.toArray, (.slice none 0 0), .int .i64 0])) _
                  exact HAN.out)
        · skip
          refine step_store (by rfl) 26 _ _ rfl (w.heap.size + 1) 0 cs.toArray (by rfl) (by rfl) r2 hsz2 r3 ?_
          refine hK _ _ ?_
          clear hK K
          refine wpAny_ready (rs := [3]) (by kernel_rfl) (by simp) ?_
          refine AllReady.cons rfl (fun K hK => ?_) AllReady.nil
          · skip
            go_simp
            refine hK _ _ ?_
            clear hK K
            refine wpAny_ready (rs := [5]) (by kernel_rfl) (by simp) ?_
            refine AllReady.cons rfl (fun K hK => ?_) AllReady.nil
            · skip
              go_simp
              refine hK _ _ ?_
              clear hK K
              refine wpAny_ready (rs := [6]) (by kernel_rfl) (by simp) ?_
              refine AllReady.cons rfl (fun K hK => ?_) AllReady.nil
              · skip
                go_simp
                refine hK _ _ ?_
                clear hK K
                refine wpAny_done (by kernel_rfl) ?_ _
                go_wp2
                exact bodyPost_ret (results_cell3 rfl _ _ (w.heap.size + 1) 0 (by rfl) cs _ HR4.out Try.underlying26 rfl hsz1) rfl (by
                  show Ans w _ (.returned (.tuple #[.agg cs.toArray, (.slice none 0 0), .int .i64 0])) _
                  exact HAN.out)
      · skip
        go_simp
        refine hK _ _ ?_
        clear hK K
        refine wpAny_ready (rs := [1]) (by kernel_rfl) (by simp) ?_
        refine AllReady.cons rfl (fun K hK => ?_) AllReady.nil
        · skip
          refine step_load (by rfl) 26 _ rfl w1.heap.size 0 (by rfl) cs _ HR1.out Try.underlying26 rfl hsz1 ?_
          refine hK _ _ ?_
          clear hK K
          refine wpAny_ready (rs := [4]) (by kernel_rfl) (by simp) ?_
          refine AllReady.cons rfl (fun K hK => ?_) AllReady.nil
          · skip
            refine step_store (by rfl) 26 _ _ rfl (w.heap.size + 1) 0 cs.toArray (by rfl) (by rfl) r2 hsz2 r3 ?_
            refine hK _ _ ?_
            clear hK K
            refine wpAny_ready (rs := [5]) (by kernel_rfl) (by simp) ?_
            refine AllReady.cons rfl (fun K hK => ?_) AllReady.nil
            · skip
              go_simp
              refine hK _ _ ?_
              clear hK K
              refine wpAny_ready (rs := [6]) (by kernel_rfl) (by simp) ?_
              refine AllReady.cons rfl (fun K hK => ?_) AllReady.nil
              · skip
                go_simp
                refine hK _ _ ?_
                clear hK K
                refine wpAny_done (by kernel_rfl) ?_ _
                go_wp2
                exact bodyPost_ret (results_cell3 rfl _ _ (w.heap.size + 1) 0 (by rfl) cs _ HR4.out Try.underlying26 rfl hsz1) rfl (by
                  show Ans w _ (.returned (.tuple #[.agg cs.toArray, (.slice none 0 0), .int .i64 0])) _
                  exact HAN.out)
  · skip
    go_simp
    refine hK _ _ ?_
    clear hK K
    refine wpAny_ready (rs := [0, 3]) (by kernel_rfl) (by simp) ?_
    refine AllReady.cons rfl (fun K hK => ?_) (AllReady.cons rfl (fun K hK => ?_) AllReady.nil)
    · skip
      go_simp
      refine hK _ _ ?_
      clear hK K
      refine wpAny_ready (rs := [1, 3]) (by kernel_rfl) (by simp) ?_
      refine AllReady.cons rfl (fun K hK => ?_) (AllReady.cons rfl (fun K hK => ?_) AllReady.nil)
      · skip
        refine step_load (by rfl) 26 _ rfl w1.heap.size 0 (by rfl) cs _ HR1.out Try.underlying26 rfl hsz1 ?_
        refine hK _ _ ?_
        clear hK K
        refine wpAny_ready (rs := [3, 4]) (by kernel_rfl) (by simp) ?_
        refine AllReady.cons rfl (fun K hK => ?_) (AllReady.cons rfl (fun K hK => ?_) AllReady.nil)
        · skip
          go_simp
          refine hK _ _ ?_
          clear hK K
          refine wpAny_ready (rs := [4]) (by kernel_rfl) (by simp) ?_
          refine AllReady.cons rfl (fun K hK => ?_) AllReady.nil
          · skip
            refine step_store (by rfl) 26 _ _ rfl (w.heap.size + 1) 0 cs.toArray (by rfl) (by rfl) r2 hsz2 r3 ?_
            refine hK _ _ ?_
            clear hK K
            refine wpAny_ready (rs := [5]) (by kernel_rfl) (by simp) ?_
            refine AllReady.cons rfl (fun K hK => ?_) AllReady.nil
            · skip
              go_simp
              refine hK _ _ ?_
              clear hK K
              refine wpAny_ready (rs := [6]) (by kernel_rfl) (by simp) ?_
              refine AllReady.cons rfl (fun K hK => ?_) AllReady.nil
              · skip
                go_simp
                refine hK _ _ ?_
                clear hK K
                refine wpAny_done (by kernel_rfl) ?_ _
                go_wp2
                exact bodyPost_ret (results_cell3 rfl _ _ (w.heap.size + 1) 0 (by rfl) cs _ HR4.out Try.underlying26 rfl hsz1) rfl (by
                  show Ans w _ (.returned (.tuple #[.agg cs.toArray, (.slice none 0 0), .int .i64 0])) _
                  exact HAN.out)
        · skip
          refine step_store (by rfl) 26 _ _ rfl (w.heap.size + 1) 0 cs.toArray (by rfl) (by rfl) r2 hsz2 r3 ?_
          refine hK _ _ ?_
          clear hK K
          refine wpAny_ready (rs := [3]) (by kernel_rfl) (by simp) ?_
          refine AllReady.cons rfl (fun K hK => ?_) AllReady.nil
          · skip
            go_simp
            refine hK _ _ ?_
            clear hK K
            refine wpAny_ready (rs := [5]) (by kernel_rfl) (by simp) ?_
            refine AllReady.cons rfl (fun K hK => ?_) AllReady.nil
            · skip
              go_simp
              refine hK _ _ ?_
              clear hK K
              refine wpAny_ready (rs := [6]) (by kernel_rfl) (by simp) ?_
              refine AllReady.cons rfl (fun K hK => ?_) AllReady.nil
              · skip
                go_simp
                refine hK _ _ ?_
                clear hK K
                refine wpAny_done (by kernel_rfl) ?_ _
                go_wp2
                exact bodyPost_ret (results_cell3 rfl _ _ (w.heap.size + 1) 0 (by rfl) cs _ HR4.out Try.underlying26 rfl hsz1) rfl (by
                  show Ans w _ (.returned (.tuple #[.agg cs.toArray, (.slice none 0 0), .int .i64 0])) _
                  exact HAN.out)
      · skip
        go_simp
        refine hK _ _ ?_
        clear hK K
        refine wpAny_ready (rs := [1]) (by kernel_rfl) (by simp) ?_
        refine AllReady.cons rfl (fun K hK => ?_) AllReady.nil
        · skip
          refine step_load (by rfl) 26 _ rfl w1.heap.size 0 (by rfl) cs _ HR1.out Try.underlying26 rfl hsz1 ?_
          refine hK _ _ ?_
          clear hK K
          refine wpAny_ready (rs := [4]) (by kernel_rfl) (by simp) ?_
          refine AllReady.cons rfl (fun K hK => ?_) AllReady.nil
          · skip
            refine step_store (by rfl) 26 _ _ rfl (w.heap.size + 1) 0 cs.toArray (by rfl) (by rfl) r2 hsz2 r3 ?_
            refine hK _ _ ?_
            clear hK K
            refine wpAny_ready (rs := [5]) (by kernel_rfl) (by simp) ?_
            refine AllReady.cons rfl (fun K hK => ?_) AllReady.nil
            · skip
              go_simp
              refine hK _ _ ?_
              clear hK K
              refine wpAny_ready (rs := [6]) (by kernel_rfl) (by simp) ?_
              refine AllReady.cons rfl (fun K hK => ?_) AllReady.nil
              · skip
                go_simp
                refine hK _ _ ?_
                clear hK K
                refine wpAny_done (by kernel_rfl) ?_ _
                go_wp2
                exact bodyPost_ret (results_cell3 rfl _ _ (w.heap.size + 1) 0 (by rfl) cs _ HR4.out Try.underlying26 rfl hsz1) rfl (by
                  show Ans w _ (.returned (.tuple #[.agg cs.toArray, (.slice none 0 0), .int .i64 0])) _
                  exact HAN.out)
    · skip
      go_simp
      refine hK _ _ ?_
      clear hK K
      refine wpAny_ready (rs := [0]) (by kernel_rfl) (by simp) ?_
      refine AllReady.cons rfl (fun K hK => ?_) AllReady.nil
      · skip
        go_simp
        refine hK _ _ ?_
        clear hK K
        refine wpAny_ready (rs := [1]) (by kernel_rfl) (by simp) ?_
        refine AllReady.cons rfl (fun K hK => ?_) AllReady.nil
        · skip
          refine step_load (by rfl) 26 _ rfl w1.heap.size 0 (by rfl) cs _ HR1.out Try.underlying26 rfl hsz1 ?_
          refine hK _ _ ?_
          clear hK K
          refine wpAny_ready (rs := [4]) (by kernel_rfl) (by simp) ?_
          refine AllReady.cons rfl (fun K hK => ?_) AllReady.nil
          · skip
            refine step_store (by rfl) 26 _ _ rfl (w.heap.size + 1) 0 cs.toArray (by rfl) (by rfl) r2 hsz2 r3 ?_
            refine hK _ _ ?_
            clear hK K
            refine wpAny_ready (rs := [5]) (by kernel_rfl) (by simp) ?_
            refine AllReady.cons rfl (fun K hK => ?_) AllReady.nil
            · skip
              go_simp
              refine hK _ _ ?_
              clear hK K
              refine wpAny_ready (rs := [6]) (by kernel_rfl) (by simp) ?_
              refine AllReady.cons rfl (fun K hK => ?_) AllReady.nil
              · skip
                go_simp
                refine hK _ _ ?_
                clear hK K
                refine wpAny_done (by kernel_rfl) ?_ _
                go_wp2
                exact bodyPost_ret (results_cell3 rfl _ _ (w.heap.size + 1) 0 (by rfl) cs _ HR4.out Try.underlying26 rfl hsz1) rfl (by
                  show Ans w _ (.returned (.tuple #[.agg cs.toArray, (.slice none 0 0), .int .i64 0])) _
                  exact HAN.out)
end Go.Proofs.Ytlhgjhbbiohcnaa
/- receiver.Tick, at the end of a session, and of whatever session. -/
namespace Go.Proofs.Ytlhgjhbbiohcnaa
open Go.RowKit
set_option linter.unusedVariables false
set_option maxRecDepth 20000 in
set_option maxHeartbeats 4000000 in
theorem vtick_o (s : Tk) (a : Option Addr) (c : Nat) (g : Option Addr) (d : Nat) (now : Int) (w : World) (hc : CameK w s a c g d) (hok : okK s = true) (hn : inB now 0 1048576 = true) (hd : s.due ≤ now) (h1 : (s.sta == 1) = false) :
    Calls Try.prog 20 #[kv s a c g d, .int .i64 now] w fun e w' => Ans w w' e ({ s with sta := 4 }, [], 0) := by
  have HBG : Hid (∀ W, Below w.heap.size w W → Calls Try.prog 31 #[kv s a c g d, .int .i64 now] W fun e w' => ∃ a' c' g' d', e = .returned (.tuple #[.agg (tcs s a' c' g' d' (.slice none 0 0)).toArray, .int .i64 0]) ∧ Hid (Below W.heap.size W w' ∧ KN W.heap.size w' s a' c' g' d')) := fun W hb => vbegin_ok s a c g d now W (hc.later hb) hok hn
  have HEN : Hid (EnT w ((w.alloc (kc s a c g d)).alloc (kc zeroK none 0 none 0)) s a c g d) := EnT.start w s a c g d
  have hs9 : (Try.prog.info? 26).map (·.size) = some 9 := by kernel_rfl
  clear hc hok hn
  go_enter Try.func20, Try.ntmps20
  go_wp2_with (go_at_call 31; refine (HBG.out _ HEN.out.bel).mono ?_; rintro e w1 ⟨a', c', g', d', rfl, hq⟩; have HF2 : Hid (FinT w (w1.alloc (tc s a' c' g' d' (.slice none 0 0))) ((w.alloc (kc s a c g d)).alloc (kc zeroK none 0 none 0)).heap.size w1.heap.size s a' c' g' d' (.slice none 0 0) []) := finT_of HEN.out hq.out; obtain ⟨_, _, _, _, _, _, k6, _, k8, _⟩ := tc_get HF2.out.tn.here; have ff := frozen_of HF2.out.tn.here)
  have HFI : Hid (FinT w (w1.alloc (tc { s with sta := 4 } a' c' g' d' (.slice none 0 0))) ((w.alloc (kc s a c g d)).alloc (kc zeroK none 0 none 0)).heap.size w1.heap.size { s with sta := 4 } a' c' g' d' (.slice none 0 0) []) := finT_of (s := { s with sta := 4 }) (a := a) (c := c) (g := g) (d := d) ⟨HEN.out.bel, HEN.out.res⟩ ⟨hq.out.1, ⟨hq.out.2.byt, hq.out.2.got, hq.out.2.bok⟩⟩
  generalize w1.alloc (tc { s with sta := 4 } a' c' g' d' (.slice none 0 0)) = W5 at HFI ⊢
  clear HBG HEN HF2 hq k6 k8 ff
  obtain ⟨cs, hcs⟩ : ∃ cs, Hid (cs = kcells { s with sta := 4 } a' c' g' d') := ⟨_, rfl⟩
  obtain ⟨r1, r2, r3, r4, r5⟩ := HFI.out.stores hcs.out
  obtain ⟨q1, q2⟩ := HFI.out.cell9 cs
  have HR1 : Hid (W5.drew.rangeAt w1.heap.size 0 cs) := r1
  have HR4 : Hid ((W5.drew.setCells (w.heap.size + 1) 0 cs).rangeAt (w.heap.size + 1) 0 cs) := r4
  have HAN : Hid (Ans w (W5.drew.setCells (w.heap.size + 1) 0 cs) (.returned (.tuple #[.agg cs.toArray, (.slice none 0 0), .int .i64 0])) ({ s with sta := 4 }, [], 0)) := r5
  have hl9 : cs.length = 9 := by rw [hcs.out]; rfl
  have hsz1 : (Try.prog.info? 26).map (·.size) = some cs.length := by rw [hl9]; exact hs9
  have hsz2 : (Try.prog.info? 26).map (·.size) = some cs.toArray.size := by rw [show cs.toArray.size = 9 from hl9]; exact hs9
  clear r1 r4 r5
  refine wp_region_any (by kernel_rfl) ?_
  change wpAny _ _ _ _ _ _ _ (World.drew _)
  refine wpAny_ready (rs := [0, 2]) (by kernel_rfl) (by simp) ?_
  refine AllReady.cons rfl (fun K hK => ?_) (AllReady.cons rfl (fun K hK => ?_) AllReady.nil)
  · skip
    go_simp
    refine hK _ _ ?_
    clear hK K
    refine wpAny_ready (rs := [1, 2]) (by kernel_rfl) (by simp) ?_
    refine AllReady.cons rfl (fun K hK => ?_) (AllReady.cons rfl (fun K hK => ?_) AllReady.nil)
    · skip
      refine step_load (by rfl) 26 _ rfl w1.heap.size 0 (by rfl) cs _ HR1.out Try.underlying26 rfl hsz1 ?_
      refine hK _ _ ?_
      clear hK K
      refine wpAny_ready (rs := [2, 4]) (by kernel_rfl) (by simp) ?_
      refine AllReady.cons rfl (fun K hK => ?_) (AllReady.cons rfl (fun K hK => ?_) AllReady.nil)
      · skip
        go_simp
        refine hK _ _ ?_
        clear hK K
        refine wpAny_ready (rs := [3, 4]) (by kernel_rfl) (by simp) ?_
        refine AllReady.cons rfl (fun K hK => ?_) (AllReady.cons rfl (fun K hK => ?_) AllReady.nil)
        · skip
          go_simp
          refine hK _ _ ?_
          clear hK K
          refine wpAny_ready (rs := [4]) (by kernel_rfl) (by simp) ?_
          refine AllReady.cons rfl (fun K hK => ?_) AllReady.nil
          · skip
            refine step_store (by rfl) 26 _ _ rfl (w.heap.size + 1) 0 cs.toArray (by rfl) (by rfl) r2 hsz2 r3 ?_
            refine hK _ _ ?_
            clear hK K
            refine wpAny_ready (rs := [5]) (by kernel_rfl) (by simp) ?_
            refine AllReady.cons rfl (fun K hK => ?_) AllReady.nil
            · skip
              go_simp
              refine hK _ _ ?_
              clear hK K
              refine wpAny_ready (rs := [6]) (by kernel_rfl) (by simp) ?_
              refine AllReady.cons rfl (fun K hK => ?_) AllReady.nil
              · skip
                go_simp
                refine hK _ _ ?_
                clear hK K
                refine wpAny_done (by kernel_rfl) ?_ _
                go_wp2
                exact bodyPost_ret (results_cell3 rfl _ _ (w.heap.size + 1) 0 (by rfl) cs _ HR4.out Try.underlying26 rfl hsz1) rfl (by
                  show Ans w _ (.returned (.tuple #[.agg cs.toArray, (.slice none 0 0), .int .i64 0])) _
                  exact HAN.out)
        · skip
          refine step_store (by rfl) 26 _ _ rfl (w.heap.size + 1) 0 cs.toArray (by rfl) (by rfl) r2 hsz2 r3 ?_
          refine hK _ _ ?_
          clear hK K
          refine wpAny_ready (rs := [3]) (by kernel_rfl) (by simp) ?_
          refine AllReady.cons rfl (fun K hK => ?_) AllReady.nil
          · skip
            go_simp
            refine hK _ _ ?_
            clear hK K
            refine wpAny_ready (rs := [5]) (by kernel_rfl) (by simp) ?_
            refine AllReady.cons rfl (fun K hK => ?_) AllReady.nil
            · skip
              go_simp
              refine hK _ _ ?_
              clear hK K
              refine wpAny_ready (rs := [6]) (by kernel_rfl) (by simp) ?_
              refine AllReady.cons rfl (fun K hK => ?_) AllReady.nil
              · skip
                go_simp
                refine hK _ _ ?_
                clear hK K
                refine wpAny_done (by kernel_rfl) ?_ _
                go_wp2
                exact bodyPost_ret (results_cell3 rfl _ _ (w.heap.size + 1) 0 (by rfl) cs _ HR4.out Try.underlying26 rfl hsz1) rfl (by
                  show Ans w _ (.returned (.tuple #[.agg cs.toArray, (.slice none 0 0), .int .i64 0])) _
                  exact HAN.out)
      · skip
        refine step_store (by rfl) 26 _ _ rfl (w.heap.size + 1) 0 cs.toArray (by rfl) (by rfl) r2 hsz2 r3 ?_
        refine hK _ _ ?_
        clear hK K
        refine wpAny_ready (rs := [2]) (by kernel_rfl) (by simp) ?_
        refine AllReady.cons rfl (fun K hK => ?_) AllReady.nil
        · skip
          go_simp
          refine hK _ _ ?_
          clear hK K
          refine wpAny_ready (rs := [3]) (by kernel_rfl) (by simp) ?_
          refine AllReady.cons rfl (fun K hK => ?_) AllReady.nil
          · skip
            go_simp
            refine hK _ _ ?_
            clear hK K
            refine wpAny_ready (rs := [5]) (by kernel_rfl) (by simp) ?_
            refine AllReady.cons rfl (fun K hK => ?_) AllReady.nil
            · skip
              go_simp
              refine hK _ _ ?_
              clear hK K
              refine wpAny_ready (rs := [6]) (by kernel_rfl) (by simp) ?_
              refine AllReady.cons rfl (fun K hK => ?_) AllReady.nil
              · skip
                go_simp
                refine hK _ _ ?_
                clear hK K
                refine wpAny_done (by kernel_rfl) ?_ _
                go_wp2
                exact bodyPost_ret (results_cell3 rfl _ _ (w.heap.size + 1) 0 (by rfl) cs _ HR4.out Try.underlying26 rfl hsz1) rfl (by
                  show Ans w _ (.returned (.tuple #[.agg cs.toArray, (.slice none 0 0), .int .i64 0])) _
                  exact HAN.out)
    · skip
      go_simp
      refine hK _ _ ?_
      clear hK K
      refine wpAny_ready (rs := [1, 3]) (by kernel_rfl) (by simp) ?_
      refine AllReady.cons rfl (fun K hK => ?_) (AllReady.cons rfl (fun K hK => ?_) AllReady.nil)
      · skip
        refine step_load (by rfl) 26 _ rfl w1.heap.size 0 (by rfl) cs _ HR1.out Try.underlying26 rfl hsz1 ?_
        refine hK _ _ ?_
        clear hK K
        refine wpAny_ready (rs := [3, 4]) (by kernel_rfl) (by simp) ?_
        refine AllReady.cons rfl (fun K hK => ?_) (AllReady.cons rfl (fun K hK => ?_) AllReady.nil)
        · skip
          go_simp
          refine hK _ _ ?_
          clear hK K
          refine wpAny_ready (rs := [4]) (by kernel_rfl) (by simp) ?_
          refine AllReady.cons rfl (fun K hK => ?_) AllReady.nil
          · skip
            refine step_store (by rfl) 26 _ _ rfl (w.heap.size + 1) 0 cs.toArray (by rfl) (by rfl) r2 hsz2 r3 ?_
            refine hK _ _ ?_
            clear hK K
            refine wpAny_ready (rs := [5]) (by kernel_rfl) (by simp) ?_
            refine AllReady.cons rfl (fun K hK => ?_) AllReady.nil
            · skip
              go_simp
              refine hK _ _ ?_
              clear hK K
              refine wpAny_ready (rs := [6]) (by kernel_rfl) (by simp) ?_
              refine AllReady.cons rfl (fun K hK => ?_) AllReady.nil
              · skip
                go_simp
                refine hK _ _ ?_
                clear hK K
                refine wpAny_done (by kernel_rfl) ?_ _
                go_wp2
                exact bodyPost_ret (results_cell3 rfl _ _ (w.heap.size + 1) 0 (by rfl) cs _ HR4.out Try.underlying26 rfl hsz1) rfl (by
                  show Ans w _ (.returned (.tuple #[.agg cs.toArray, (.slice none 0 0), .int .i64 0])) _
                  exact HAN.out)
        · skip
          refine step_store (by rfl) 26 _ _ rfl (w.heap.size + 1) 0 cs.toArray (by rfl) (by rfl) r2 hsz2 r3 ?_
          refine hK _ _ ?_
          clear hK K
          refine wpAny_ready (rs := [3]) (by kernel_rfl) (by simp) ?_
          refine AllReady.cons rfl (fun K hK => ?_) AllReady.nil
          · skip
            go_simp
            refine hK _ _ ?_
            clear hK K
            refine wpAny_ready (rs := [5]) (by kernel_rfl) (by simp) ?_
            refine AllReady.cons rfl (fun K hK => ?_) AllReady.nil
            · skip
              go_simp
              refine hK _ _ ?_
              clear hK K
              refine wpAny_ready (rs := [6]) (by kernel_rfl) (by simp) ?_
              refine AllReady.cons rfl (fun K hK => ?_) AllReady.nil
              · skip
                go_simp
                refine hK _ _ ?_
                clear hK K
                refine wpAny_done (by kernel_rfl) ?_ _
                go_wp2
                exact bodyPost_ret (results_cell3 rfl _ _ (w.heap.size + 1) 0 (by rfl) cs _ HR4.out Try.underlying26 rfl hsz1) rfl (by
                  show Ans w _ (.returned (.tuple #[.agg cs.toArray, (.slice none 0 0), .int .i64 0])) _
                  exact HAN.out)
      · skip
        go_simp
        refine hK _ _ ?_
        clear hK K
        refine wpAny_ready (rs := [1]) (by kernel_rfl) (by simp) ?_
        refine AllReady.cons rfl (fun K hK => ?_) AllReady.nil
        · skip
          refine step_load (by rfl) 26 _ rfl w1.heap.size 0 (by rfl) cs _ HR1.out Try.underlying26 rfl hsz1 ?_
          refine hK _ _ ?_
          clear hK K
          refine wpAny_ready (rs := [4]) (by kernel_rfl) (by simp) ?_
          refine AllReady.cons rfl (fun K hK => ?_) AllReady.nil
          · skip
            refine step_store (by rfl) 26 _ _ rfl (w.heap.size + 1) 0 cs.toArray (by rfl) (by rfl) r2 hsz2 r3 ?_
            refine hK _ _ ?_
            clear hK K
            refine wpAny_ready (rs := [5]) (by kernel_rfl) (by simp) ?_
            refine AllReady.cons rfl (fun K hK => ?_) AllReady.nil
            · skip
              go_simp
              refine hK _ _ ?_
              clear hK K
              refine wpAny_ready (rs := [6]) (by kernel_rfl) (by simp) ?_
              refine AllReady.cons rfl (fun K hK => ?_) AllReady.nil
              · skip
                go_simp
                refine hK _ _ ?_
                clear hK K
                refine wpAny_done (by kernel_rfl) ?_ _
                go_wp2
                exact bodyPost_ret (results_cell3 rfl _ _ (w.heap.size + 1) 0 (by rfl) cs _ HR4.out Try.underlying26 rfl hsz1) rfl (by
                  show Ans w _ (.returned (.tuple #[.agg cs.toArray, (.slice none 0 0), .int .i64 0])) _
                  exact HAN.out)
  · skip
    go_simp
    refine hK _ _ ?_
    clear hK K
    refine wpAny_ready (rs := [0, 3]) (by kernel_rfl) (by simp) ?_
    refine AllReady.cons rfl (fun K hK => ?_) (AllReady.cons rfl (fun K hK => ?_) AllReady.nil)
    · skip
      go_simp
      refine hK _ _ ?_
      clear hK K
      refine wpAny_ready (rs := [1, 3]) (by kernel_rfl) (by simp) ?_
      refine AllReady.cons rfl (fun K hK => ?_) (AllReady.cons rfl (fun K hK => ?_) AllReady.nil)
      · skip
        refine step_load (by rfl) 26 _ rfl w1.heap.size 0 (by rfl) cs _ HR1.out Try.underlying26 rfl hsz1 ?_
        refine hK _ _ ?_
        clear hK K
        refine wpAny_ready (rs := [3, 4]) (by kernel_rfl) (by simp) ?_
        refine AllReady.cons rfl (fun K hK => ?_) (AllReady.cons rfl (fun K hK => ?_) AllReady.nil)
        · skip
          go_simp
          refine hK _ _ ?_
          clear hK K
          refine wpAny_ready (rs := [4]) (by kernel_rfl) (by simp) ?_
          refine AllReady.cons rfl (fun K hK => ?_) AllReady.nil
          · skip
            refine step_store (by rfl) 26 _ _ rfl (w.heap.size + 1) 0 cs.toArray (by rfl) (by rfl) r2 hsz2 r3 ?_
            refine hK _ _ ?_
            clear hK K
            refine wpAny_ready (rs := [5]) (by kernel_rfl) (by simp) ?_
            refine AllReady.cons rfl (fun K hK => ?_) AllReady.nil
            · skip
              go_simp
              refine hK _ _ ?_
              clear hK K
              refine wpAny_ready (rs := [6]) (by kernel_rfl) (by simp) ?_
              refine AllReady.cons rfl (fun K hK => ?_) AllReady.nil
              · skip
                go_simp
                refine hK _ _ ?_
                clear hK K
                refine wpAny_done (by kernel_rfl) ?_ _
                go_wp2
                exact bodyPost_ret (results_cell3 rfl _ _ (w.heap.size + 1) 0 (by rfl) cs _ HR4.out Try.underlying26 rfl hsz1) rfl (by
                  show Ans w _ (.returned (.tuple #[.agg cs.toArray, (.slice none 0 0), .int .i64 0])) _
                  exact HAN.out)
        · skip
          refine step_store (by rfl) 26 _ _ rfl (w.heap.size + 1) 0 cs.toArray (by rfl) (by rfl) r2 hsz2 r3 ?_
          refine hK _ _ ?_
          clear hK K
          refine wpAny_ready (rs := [3]) (by kernel_rfl) (by simp) ?_
          refine AllReady.cons rfl (fun K hK => ?_) AllReady.nil
          · skip
            go_simp
            refine hK _ _ ?_
            clear hK K
            refine wpAny_ready (rs := [5]) (by kernel_rfl) (by simp) ?_
            refine AllReady.cons rfl (fun K hK => ?_) AllReady.nil
            · skip
              go_simp
              refine hK _ _ ?_
              clear hK K
              refine wpAny_ready (rs := [6]) (by kernel_rfl) (by simp) ?_
              refine AllReady.cons rfl (fun K hK => ?_) AllReady.nil
              · skip
                go_simp
                refine hK _ _ ?_
                clear hK K
                refine wpAny_done (by kernel_rfl) ?_ _
                go_wp2
                exact bodyPost_ret (results_cell3 rfl _ _ (w.heap.size + 1) 0 (by rfl) cs _ HR4.out Try.underlying26 rfl hsz1) rfl (by
                  show Ans w _ (.returned (.tuple #[.agg cs.toArray, (.slice none 0 0), .int .i64 0])) _
                  exact HAN.out)
      · skip
        go_simp
        refine hK _ _ ?_
        clear hK K
        refine wpAny_ready (rs := [1]) (by kernel_rfl) (by simp) ?_
        refine AllReady.cons rfl (fun K hK => ?_) AllReady.nil
        · skip
          refine step_load (by rfl) 26 _ rfl w1.heap.size 0 (by rfl) cs _ HR1.out Try.underlying26 rfl hsz1 ?_
          refine hK _ _ ?_
          clear hK K
          refine wpAny_ready (rs := [4]) (by kernel_rfl) (by simp) ?_
          refine AllReady.cons rfl (fun K hK => ?_) AllReady.nil
          · skip
            refine step_store (by rfl) 26 _ _ rfl (w.heap.size + 1) 0 cs.toArray (by rfl) (by rfl) r2 hsz2 r3 ?_
            refine hK _ _ ?_
            clear hK K
            refine wpAny_ready (rs := [5]) (by kernel_rfl) (by simp) ?_
            refine AllReady.cons rfl (fun K hK => ?_) AllReady.nil
            · skip
              go_simp
              refine hK _ _ ?_
              clear hK K
              refine wpAny_ready (rs := [6]) (by kernel_rfl) (by simp) ?_
              refine AllReady.cons rfl (fun K hK => ?_) AllReady.nil
              · skip
                go_simp
                refine hK _ _ ?_
                clear hK K
                refine wpAny_done (by kernel_rfl) ?_ _
                go_wp2
                exact bodyPost_ret (results_cell3 rfl _ _ (w.heap.size + 1) 0 (by rfl) cs _ HR4.out Try.underlying26 rfl hsz1) rfl (by
                  show Ans w _ (.returned (.tuple #[.agg cs.toArray, (.slice none 0 0), .int .i64 0])) _
                  exact HAN.out)
    · skip
      go_simp
      refine hK _ _ ?_
      clear hK K
      refine wpAny_ready (rs := [0]) (by kernel_rfl) (by simp) ?_
      refine AllReady.cons rfl (fun K hK => ?_) AllReady.nil
      · skip
        go_simp
        refine hK _ _ ?_
        clear hK K
        refine wpAny_ready (rs := [1]) (by kernel_rfl) (by simp) ?_
        refine AllReady.cons rfl (fun K hK => ?_) AllReady.nil
        · skip
          refine step_load (by rfl) 26 _ rfl w1.heap.size 0 (by rfl) cs _ HR1.out Try.underlying26 rfl hsz1 ?_
          refine hK _ _ ?_
          clear hK K
          refine wpAny_ready (rs := [4]) (by kernel_rfl) (by simp) ?_
          refine AllReady.cons rfl (fun K hK => ?_) AllReady.nil
          · skip
            refine step_store (by rfl) 26 _ _ rfl (w.heap.size + 1) 0 cs.toArray (by rfl) (by rfl) r2 hsz2 r3 ?_
            refine hK _ _ ?_
            clear hK K
            refine wpAny_ready (rs := [5]) (by kernel_rfl) (by simp) ?_
            refine AllReady.cons rfl (fun K hK => ?_) AllReady.nil
            · skip
              go_simp
              refine hK _ _ ?_
              clear hK K
              refine wpAny_ready (rs := [6]) (by kernel_rfl) (by simp) ?_
              refine AllReady.cons rfl (fun K hK => ?_) AllReady.nil
              · skip
                go_simp
                refine hK _ _ ?_
                clear hK K
                refine wpAny_done (by kernel_rfl) ?_ _
                go_wp2
                exact bodyPost_ret (results_cell3 rfl _ _ (w.heap.size + 1) 0 (by rfl) cs _ HR4.out Try.underlying26 rfl hsz1) rfl (by
                  show Ans w _ (.returned (.tuple #[.agg cs.toArray, (.slice none 0 0), .int .i64 0])) _
                  exact HAN.out)
set_option maxRecDepth 20000 in
set_option maxHeartbeats 4000000 in
theorem vtick_s (s : Tk) (a : Option Addr) (c : Nat) (g : Option Addr) (d : Nat) (now : Int) (w : World) (hc : CameK w s a c g d) (hok : okK s = true) (hn : inB now 0 1048576 = true) (hd : s.due ≤ now) (h1 : (s.sta == 1) = true) :
    Calls Try.prog 20 #[kv s a c g d, .int .i64 now] w fun e w' => Ans w w' e ({ s with sta := 4 }, [⟨6, s.src, s.ses, 0, 0, 0, 0, 0, 0, 4, false, [], []⟩], 0) := by
  have HBG : Hid (∀ W, Below w.heap.size w W → Calls Try.prog 31 #[kv s a c g d, .int .i64 now] W fun e w' => ∃ a' c' g' d', e = .returned (.tuple #[.agg (tcs s a' c' g' d' (.slice none 0 0)).toArray, .int .i64 0]) ∧ Hid (Below W.heap.size W w' ∧ KN W.heap.size w' s a' c' g' d')) := fun W hb => vbegin_ok s a c g d now W (hc.later hb) hok hn
  have HEN : Hid (EnT w ((w.alloc (kc s a c g d)).alloc (kc zeroK none 0 none 0)) s a c g d) := EnT.start w s a c g d
  have hs9 : (Try.prog.info? 26).map (·.size) = some 9 := by kernel_rfl
  clear hc hok hn
  go_enter Try.func20, Try.ntmps20
  go_wp2_with (first | (go_at_call 31; refine (HBG.out _ HEN.out.bel).mono ?_; rintro e w1 ⟨a', c', g', d', rfl, hq⟩; have HF2 : Hid (FinT w (w1.alloc (tc s a' c' g' d' (.slice none 0 0))) ((w.alloc (kc s a c g d)).alloc (kc zeroK none 0 none 0)).heap.size w1.heap.size s a' c' g' d' (.slice none 0 0) []) := finT_of HEN.out hq.out; obtain ⟨_, _, _, _, _, _, k6, _, k8, _⟩ := tc_get HF2.out.tn.here; have ff := frozen_of HF2.out.tn.here) | (go_at_call 40; refine (vstop_any s a' c' g' d' w1.heap.size 4 _ HF2.out.tn.here).mono ?_; rintro e w5 ⟨rfl, hs5⟩; obtain ⟨v5, hv5⟩ := HF2.out.said hs5.out rfl rfl; have HF5 : Hid (FinT w w5 ((w.alloc (kc s a c g d)).alloc (kc zeroK none 0 none 0)).heap.size w1.heap.size s a' c' g' d' v5 [⟨6, s.src, s.ses, 0, 0, 0, 0, 0, 0, 4, false, [], []⟩]) := hv5; clear hv5; have j6 := (tc_get HF5.out.tn.here).2.2.2.2.2.2.1; have f5 := frozen_of HF5.out.tn.here))
  have HFI : Hid (FinT w (w5.setCell ⟨w1.heap.size, 6, none⟩ (.int .i64 4)) ((w.alloc (kc s a c g d)).alloc (kc zeroK none 0 none 0)).heap.size w1.heap.size { s with sta := 4 } a' c' g' d' v5 [⟨6, s.src, s.ses, 0, 0, 0, 0, 0, 0, 4, false, [], []⟩]) := HF5.out.sta (by simp) 4
  generalize w5.setCell ⟨w1.heap.size, 6, none⟩ (.int .i64 4) = W5 at HFI ⊢
  clear HBG HEN HF2 HF5 hs5 hq k6 k8 ff j6 f5
  obtain ⟨cs, hcs⟩ : ∃ cs, Hid (cs = kcells { s with sta := 4 } a' c' g' d') := ⟨_, rfl⟩
  obtain ⟨r1, r2, r3, r4, r5⟩ := HFI.out.stores hcs.out
  obtain ⟨q1, q2⟩ := HFI.out.cell9 cs
  have HR1 : Hid (W5.drew.rangeAt w1.heap.size 0 cs) := r1
  have HR4 : Hid ((W5.drew.setCells (w.heap.size + 1) 0 cs).rangeAt (w.heap.size + 1) 0 cs) := r4
  have HAN : Hid (Ans w (W5.drew.setCells (w.heap.size + 1) 0 cs) (.returned (.tuple #[.agg cs.toArray, v5, .int .i64 0])) ({ s with sta := 4 }, [⟨6, s.src, s.ses, 0, 0, 0, 0, 0, 0, 4, false, [], []⟩], 0)) := r5
  have hl9 : cs.length = 9 := by rw [hcs.out]; rfl
  have hsz1 : (Try.prog.info? 26).map (·.size) = some cs.length := by rw [hl9]; exact hs9
  have hsz2 : (Try.prog.info? 26).map (·.size) = some cs.toArray.size := by rw [show cs.toArray.size = 9 from hl9]; exact hs9
  clear r1 r4 r5
  refine wp_region_any (by kernel_rfl) ?_
  change wpAny _ _ _ _ _ _ _ (World.drew _)
  refine wpAny_ready (rs := [0, 2]) (by kernel_rfl) (by simp) ?_
  refine AllReady.cons rfl (fun K hK => ?_) (AllReady.cons rfl (fun K hK => ?_) AllReady.nil)
  · skip
    go_simp
    refine hK _ _ ?_
    clear hK K
    refine wpAny_ready (rs := [1, 2]) (by kernel_rfl) (by simp) ?_
    refine AllReady.cons rfl (fun K hK => ?_) (AllReady.cons rfl (fun K hK => ?_) AllReady.nil)
    · skip
      refine step_load (by rfl) 26 _ rfl w1.heap.size 0 (by rfl) cs _ HR1.out Try.underlying26 rfl hsz1 ?_
      refine hK _ _ ?_
      clear hK K
      refine wpAny_ready (rs := [2, 4]) (by kernel_rfl) (by simp) ?_
      refine AllReady.cons rfl (fun K hK => ?_) (AllReady.cons rfl (fun K hK => ?_) AllReady.nil)
      · skip
        go_simp
        refine hK _ _ ?_
        clear hK K
        refine wpAny_ready (rs := [3, 4]) (by kernel_rfl) (by simp) ?_
        refine AllReady.cons rfl (fun K hK => ?_) (AllReady.cons rfl (fun K hK => ?_) AllReady.nil)
        · skip
          go_simp
          refine hK _ _ ?_
          clear hK K
          refine wpAny_ready (rs := [4]) (by kernel_rfl) (by simp) ?_
          refine AllReady.cons rfl (fun K hK => ?_) AllReady.nil
          · skip
            refine step_store (by rfl) 26 _ _ rfl (w.heap.size + 1) 0 cs.toArray (by rfl) (by rfl) r2 hsz2 r3 ?_
            refine hK _ _ ?_
            clear hK K
            refine wpAny_ready (rs := [5]) (by kernel_rfl) (by simp) ?_
            refine AllReady.cons rfl (fun K hK => ?_) AllReady.nil
            · skip
              go_simp
              refine hK _ _ ?_
              clear hK K
              refine wpAny_ready (rs := [6]) (by kernel_rfl) (by simp) ?_
              refine AllReady.cons rfl (fun K hK => ?_) AllReady.nil
              · skip
                go_simp
                refine hK _ _ ?_
                clear hK K
                refine wpAny_done (by kernel_rfl) ?_ _
                go_wp2
                exact bodyPost_ret (results_cell3 rfl _ _ (w.heap.size + 1) 0 (by rfl) cs _ HR4.out Try.underlying26 rfl hsz1) rfl (by
                  show Ans w _ (.returned (.tuple #[.agg cs.toArray, v5, .int .i64 0])) _
                  exact HAN.out)
        · skip
          refine step_store (by rfl) 26 _ _ rfl (w.heap.size + 1) 0 cs.toArray (by rfl) (by rfl) r2 hsz2 r3 ?_
          refine hK _ _ ?_
          clear hK K
          refine wpAny_ready (rs := [3]) (by kernel_rfl) (by simp) ?_
          refine AllReady.cons rfl (fun K hK => ?_) AllReady.nil
          · skip
            go_simp
            refine hK _ _ ?_
            clear hK K
            refine wpAny_ready (rs := [5]) (by kernel_rfl) (by simp) ?_
            refine AllReady.cons rfl (fun K hK => ?_) AllReady.nil
            · skip
              go_simp
              refine hK _ _ ?_
              clear hK K
              refine wpAny_ready (rs := [6]) (by kernel_rfl) (by simp) ?_
              refine AllReady.cons rfl (fun K hK => ?_) AllReady.nil
              · skip
                go_simp
                refine hK _ _ ?_
                clear hK K
                refine wpAny_done (by kernel_rfl) ?_ _
                go_wp2
                exact bodyPost_ret (results_cell3 rfl _ _ (w.heap.size + 1) 0 (by rfl) cs _ HR4.out Try.underlying26 rfl hsz1) rfl (by
                  show Ans w _ (.returned (.tuple #[.agg cs.toArray, v5, .int .i64 0])) _
                  exact HAN.out)
      · skip
        refine step_store (by rfl) 26 _ _ rfl (w.heap.size + 1) 0 cs.toArray (by rfl) (by rfl) r2 hsz2 r3 ?_
        refine hK _ _ ?_
        clear hK K
        refine wpAny_ready (rs := [2]) (by kernel_rfl) (by simp) ?_
        refine AllReady.cons rfl (fun K hK => ?_) AllReady.nil
        · skip
          go_simp
          refine hK _ _ ?_
          clear hK K
          refine wpAny_ready (rs := [3]) (by kernel_rfl) (by simp) ?_
          refine AllReady.cons rfl (fun K hK => ?_) AllReady.nil
          · skip
            go_simp
            refine hK _ _ ?_
            clear hK K
            refine wpAny_ready (rs := [5]) (by kernel_rfl) (by simp) ?_
            refine AllReady.cons rfl (fun K hK => ?_) AllReady.nil
            · skip
              go_simp
              refine hK _ _ ?_
              clear hK K
              refine wpAny_ready (rs := [6]) (by kernel_rfl) (by simp) ?_
              refine AllReady.cons rfl (fun K hK => ?_) AllReady.nil
              · skip
                go_simp
                refine hK _ _ ?_
                clear hK K
                refine wpAny_done (by kernel_rfl) ?_ _
                go_wp2
                exact bodyPost_ret (results_cell3 rfl _ _ (w.heap.size + 1) 0 (by rfl) cs _ HR4.out Try.underlying26 rfl hsz1) rfl (by
                  show Ans w _ (.returned (.tuple #[.agg cs.toArray, v5, .int .i64 0])) _
                  exact HAN.out)
    · skip
      go_simp
      refine hK _ _ ?_
      clear hK K
      refine wpAny_ready (rs := [1, 3]) (by kernel_rfl) (by simp) ?_
      refine AllReady.cons rfl (fun K hK => ?_) (AllReady.cons rfl (fun K hK => ?_) AllReady.nil)
      · skip
        refine step_load (by rfl) 26 _ rfl w1.heap.size 0 (by rfl) cs _ HR1.out Try.underlying26 rfl hsz1 ?_
        refine hK _ _ ?_
        clear hK K
        refine wpAny_ready (rs := [3, 4]) (by kernel_rfl) (by simp) ?_
        refine AllReady.cons rfl (fun K hK => ?_) (AllReady.cons rfl (fun K hK => ?_) AllReady.nil)
        · skip
          go_simp
          refine hK _ _ ?_
          clear hK K
          refine wpAny_ready (rs := [4]) (by kernel_rfl) (by simp) ?_
          refine AllReady.cons rfl (fun K hK => ?_) AllReady.nil
          · skip
            refine step_store (by rfl) 26 _ _ rfl (w.heap.size + 1) 0 cs.toArray (by rfl) (by rfl) r2 hsz2 r3 ?_
            refine hK _ _ ?_
            clear hK K
            refine wpAny_ready (rs := [5]) (by kernel_rfl) (by simp) ?_
            refine AllReady.cons rfl (fun K hK => ?_) AllReady.nil
            · skip
              go_simp
              refine hK _ _ ?_
              clear hK K
              refine wpAny_ready (rs := [6]) (by kernel_rfl) (by simp) ?_
              refine AllReady.cons rfl (fun K hK => ?_) AllReady.nil
              · skip
                go_simp
                refine hK _ _ ?_
                clear hK K
                refine wpAny_done (by kernel_rfl) ?_ _
                go_wp2
                exact bodyPost_ret (results_cell3 rfl _ _ (w.heap.size + 1) 0 (by rfl) cs _ HR4.out Try.underlying26 rfl hsz1) rfl (by
                  show Ans w _ (.returned (.tuple #[.agg cs.toArray, v5, .int .i64 0])) _
                  exact HAN.out)
        · skip
          refine step_store (by rfl) 26 _ _ rfl (w.heap.size + 1) 0 cs.toArray (by rfl) (by rfl) r2 hsz2 r3 ?_
          refine hK _ _ ?_
          clear hK K
          refine wpAny_ready (rs := [3]) (by kernel_rfl) (by simp) ?_
          refine AllReady.cons rfl (fun K hK => ?_) AllReady.nil
          · skip
            go_simp
            refine hK _ _ ?_
            clear hK K
            refine wpAny_ready (rs := [5]) (by kernel_rfl) (by simp) ?_
            refine AllReady.cons rfl (fun K hK => ?_) AllReady.nil
            · skip
              go_simp
              refine hK _ _ ?_
              clear hK K
              refine wpAny_ready (rs := [6]) (by kernel_rfl) (by simp) ?_
              refine AllReady.cons rfl (fun K hK => ?_) AllReady.nil
              · skip
                go_simp
                refine hK _ _ ?_
                clear hK K
                refine wpAny_done (by kernel_rfl) ?_ _
                go_wp2
                exact bodyPost_ret (results_cell3 rfl _ _ (w.heap.size + 1) 0 (by rfl) cs _ HR4.out Try.underlying26 rfl hsz1) rfl (by
                  show Ans w _ (.returned (.tuple #[.agg cs.toArray, v5, .int .i64 0])) _
                  exact HAN.out)
      · skip
        go_simp
        refine hK _ _ ?_
        clear hK K
        refine wpAny_ready (rs := [1]) (by kernel_rfl) (by simp) ?_
        refine AllReady.cons rfl (fun K hK => ?_) AllReady.nil
        · skip
          refine step_load (by rfl) 26 _ rfl w1.heap.size 0 (by rfl) cs _ HR1.out Try.underlying26 rfl hsz1 ?_
          refine hK _ _ ?_
          clear hK K
          refine wpAny_ready (rs := [4]) (by kernel_rfl) (by simp) ?_
          refine AllReady.cons rfl (fun K hK => ?_) AllReady.nil
          · skip
            refine step_store (by rfl) 26 _ _ rfl (w.heap.size + 1) 0 cs.toArray (by rfl) (by rfl) r2 hsz2 r3 ?_
            refine hK _ _ ?_
            clear hK K
            refine wpAny_ready (rs := [5]) (by kernel_rfl) (by simp) ?_
            refine AllReady.cons rfl (fun K hK => ?_) AllReady.nil
            · skip
              go_simp
              refine hK _ _ ?_
              clear hK K
              refine wpAny_ready (rs := [6]) (by kernel_rfl) (by simp) ?_
              refine AllReady.cons rfl (fun K hK => ?_) AllReady.nil
              · skip
                go_simp
                refine hK _ _ ?_
                clear hK K
                refine wpAny_done (by kernel_rfl) ?_ _
                go_wp2
                exact bodyPost_ret (results_cell3 rfl _ _ (w.heap.size + 1) 0 (by rfl) cs _ HR4.out Try.underlying26 rfl hsz1) rfl (by
                  show Ans w _ (.returned (.tuple #[.agg cs.toArray, v5, .int .i64 0])) _
                  exact HAN.out)
  · skip
    go_simp
    refine hK _ _ ?_
    clear hK K
    refine wpAny_ready (rs := [0, 3]) (by kernel_rfl) (by simp) ?_
    refine AllReady.cons rfl (fun K hK => ?_) (AllReady.cons rfl (fun K hK => ?_) AllReady.nil)
    · skip
      go_simp
      refine hK _ _ ?_
      clear hK K
      refine wpAny_ready (rs := [1, 3]) (by kernel_rfl) (by simp) ?_
      refine AllReady.cons rfl (fun K hK => ?_) (AllReady.cons rfl (fun K hK => ?_) AllReady.nil)
      · skip
        refine step_load (by rfl) 26 _ rfl w1.heap.size 0 (by rfl) cs _ HR1.out Try.underlying26 rfl hsz1 ?_
        refine hK _ _ ?_
        clear hK K
        refine wpAny_ready (rs := [3, 4]) (by kernel_rfl) (by simp) ?_
        refine AllReady.cons rfl (fun K hK => ?_) (AllReady.cons rfl (fun K hK => ?_) AllReady.nil)
        · skip
          go_simp
          refine hK _ _ ?_
          clear hK K
          refine wpAny_ready (rs := [4]) (by kernel_rfl) (by simp) ?_
          refine AllReady.cons rfl (fun K hK => ?_) AllReady.nil
          · skip
            refine step_store (by rfl) 26 _ _ rfl (w.heap.size + 1) 0 cs.toArray (by rfl) (by rfl) r2 hsz2 r3 ?_
            refine hK _ _ ?_
            clear hK K
            refine wpAny_ready (rs := [5]) (by kernel_rfl) (by simp) ?_
            refine AllReady.cons rfl (fun K hK => ?_) AllReady.nil
            · skip
              go_simp
              refine hK _ _ ?_
              clear hK K
              refine wpAny_ready (rs := [6]) (by kernel_rfl) (by simp) ?_
              refine AllReady.cons rfl (fun K hK => ?_) AllReady.nil
              · skip
                go_simp
                refine hK _ _ ?_
                clear hK K
                refine wpAny_done (by kernel_rfl) ?_ _
                go_wp2
                exact bodyPost_ret (results_cell3 rfl _ _ (w.heap.size + 1) 0 (by rfl) cs _ HR4.out Try.underlying26 rfl hsz1) rfl (by
                  show Ans w _ (.returned (.tuple #[.agg cs.toArray, v5, .int .i64 0])) _
                  exact HAN.out)
        · skip
          refine step_store (by rfl) 26 _ _ rfl (w.heap.size + 1) 0 cs.toArray (by rfl) (by rfl) r2 hsz2 r3 ?_
          refine hK _ _ ?_
          clear hK K
          refine wpAny_ready (rs := [3]) (by kernel_rfl) (by simp) ?_
          refine AllReady.cons rfl (fun K hK => ?_) AllReady.nil
          · skip
            go_simp
            refine hK _ _ ?_
            clear hK K
            refine wpAny_ready (rs := [5]) (by kernel_rfl) (by simp) ?_
            refine AllReady.cons rfl (fun K hK => ?_) AllReady.nil
            · skip
              go_simp
              refine hK _ _ ?_
              clear hK K
              refine wpAny_ready (rs := [6]) (by kernel_rfl) (by simp) ?_
              refine AllReady.cons rfl (fun K hK => ?_) AllReady.nil
              · skip
                go_simp
                refine hK _ _ ?_
                clear hK K
                refine wpAny_done (by kernel_rfl) ?_ _
                go_wp2
                exact bodyPost_ret (results_cell3 rfl _ _ (w.heap.size + 1) 0 (by rfl) cs _ HR4.out Try.underlying26 rfl hsz1) rfl (by
                  show Ans w _ (.returned (.tuple #[.agg cs.toArray, v5, .int .i64 0])) _
                  exact HAN.out)
      · skip
        go_simp
        refine hK _ _ ?_
        clear hK K
        refine wpAny_ready (rs := [1]) (by kernel_rfl) (by simp) ?_
        refine AllReady.cons rfl (fun K hK => ?_) AllReady.nil
        · skip
          refine step_load (by rfl) 26 _ rfl w1.heap.size 0 (by rfl) cs _ HR1.out Try.underlying26 rfl hsz1 ?_
          refine hK _ _ ?_
          clear hK K
          refine wpAny_ready (rs := [4]) (by kernel_rfl) (by simp) ?_
          refine AllReady.cons rfl (fun K hK => ?_) AllReady.nil
          · skip
            refine step_store (by rfl) 26 _ _ rfl (w.heap.size + 1) 0 cs.toArray (by rfl) (by rfl) r2 hsz2 r3 ?_
            refine hK _ _ ?_
            clear hK K
            refine wpAny_ready (rs := [5]) (by kernel_rfl) (by simp) ?_
            refine AllReady.cons rfl (fun K hK => ?_) AllReady.nil
            · skip
              go_simp
              refine hK _ _ ?_
              clear hK K
              refine wpAny_ready (rs := [6]) (by kernel_rfl) (by simp) ?_
              refine AllReady.cons rfl (fun K hK => ?_) AllReady.nil
              · skip
                go_simp
                refine hK _ _ ?_
                clear hK K
                refine wpAny_done (by kernel_rfl) ?_ _
                go_wp2
                exact bodyPost_ret (results_cell3 rfl _ _ (w.heap.size + 1) 0 (by rfl) cs _ HR4.out Try.underlying26 rfl hsz1) rfl (by
                  show Ans w _ (.returned (.tuple #[.agg cs.toArray, v5, .int .i64 0])) _
                  exact HAN.out)
    · skip
      go_simp
      refine hK _ _ ?_
      clear hK K
      refine wpAny_ready (rs := [0]) (by kernel_rfl) (by simp) ?_
      refine AllReady.cons rfl (fun K hK => ?_) AllReady.nil
      · skip
        go_simp
        refine hK _ _ ?_
        clear hK K
        refine wpAny_ready (rs := [1]) (by kernel_rfl) (by simp) ?_
        refine AllReady.cons rfl (fun K hK => ?_) AllReady.nil
        · skip
          refine step_load (by rfl) 26 _ rfl w1.heap.size 0 (by rfl) cs _ HR1.out Try.underlying26 rfl hsz1 ?_
          refine hK _ _ ?_
          clear hK K
          refine wpAny_ready (rs := [4]) (by kernel_rfl) (by simp) ?_
          refine AllReady.cons rfl (fun K hK => ?_) AllReady.nil
          · skip
            refine step_store (by rfl) 26 _ _ rfl (w.heap.size + 1) 0 cs.toArray (by rfl) (by rfl) r2 hsz2 r3 ?_
            refine hK _ _ ?_
            clear hK K
            refine wpAny_ready (rs := [5]) (by kernel_rfl) (by simp) ?_
            refine AllReady.cons rfl (fun K hK => ?_) AllReady.nil
            · skip
              go_simp
              refine hK _ _ ?_
              clear hK K
              refine wpAny_ready (rs := [6]) (by kernel_rfl) (by simp) ?_
              refine AllReady.cons rfl (fun K hK => ?_) AllReady.nil
              · skip
                go_simp
                refine hK _ _ ?_
                clear hK K
                refine wpAny_done (by kernel_rfl) ?_ _
                go_wp2
                exact bodyPost_ret (results_cell3 rfl _ _ (w.heap.size + 1) 0 (by rfl) cs _ HR4.out Try.underlying26 rfl hsz1) rfl (by
                  show Ans w _ (.returned (.tuple #[.agg cs.toArray, v5, .int .i64 0])) _
                  exact HAN.out)
theorem vtick_any (s : Tk) (a : Option Addr) (c : Nat) (g : Option Addr) (d : Nat) (now : Int) (w : World) (hc : CameK w s a c g d) :
    Calls Try.prog 20 #[kv s a c g d, .int .i64 now] w fun e w' => Ans w w' e (tickK s now) := by
  unfold tickK
  cases hok : okK s with
  | false =>
    rw [if_neg (by simp)]
    exact vtick_no s a c g d now w 250 (by decide) (fun W hb => vbegin_no s a c g d now W (hc.later hb) hok)
  | true =>
    rw [if_pos rfl]
    cases hn : inB now 0 1048576 with
    | false =>
      rw [if_neg (by simp)]
      exact vtick_no s a c g d now w 2 (by decide) (fun W hb => vbegin_arg s a c g d now W (hc.later hb) hok hn)
    | true =>
      rw [if_pos rfl]
      unfold tiK
      by_cases hd : s.due ≤ now
      · rw [if_pos hd]
        cases h1 : (s.sta == 1) with
        | true =>
          rw [if_pos (by simpa using h1)]
          exact vtick_s s a c g d now w hc hok hn hd h1
        | false =>
          rw [if_neg (by simpa using h1)]
          exact vtick_o s a c g d now w hc hok hn hd h1
      · rw [if_neg hd]
        exact vtick_w s a c g d now w hc hok hn (by omega)
end Go.Proofs.Ytlhgjhbbiohcnaa
/- ReceiverBegins: what New and Tick answer, and the reference's Tick: the parts. -/
namespace Go.Proofs.Ytlhgjhbbiohcnaa
open Go.RowKit
set_option linter.unusedVariables false
theorem new_no {x : Sg} {now life : Int} (h : okS x = false ∨ x.knd ≠ 1 ∨ inB life 1 65536 = false ∨ inB now 0 1048576 = false) : newK x now life = (zeroK, [], 2) := by
  unfold newK
  by_cases hc : (okS x && (decide (x.knd = 1) && inB life 1 65536)) = true
  · rw [if_pos hc]
    simp only [Bool.and_eq_true, decide_eq_true_eq] at hc
    obtain ⟨h1, h2, h3⟩ := hc
    have hn : inB now 0 1048576 = false := by
      rcases h with h | h | h | h
      · rw [h1] at h; cases h
      · exact absurd h2 h
      · rw [h3] at h; cases h
      · exact h
    unfold takeK
    rw [if_pos (fresh_ok h1 h2 h3).1, hn]
    rfl
  · rw [if_neg hc]
theorem new_yes {x : Sg} {now life : Int} (h1 : okS x = true) (h2 : x.knd = 1) (h3 : inB life 1 65536 = true) (hn : inB now 0 1048576 = true) : newK x now life = ((tkK (freshK x life) x now).1, (tkK (freshK x life) x now).2, 0) := by
  unfold newK
  rw [if_pos (by rw [h1, h3, decide_eq_true h2]; rfl)]
  unfold takeK
  have hg : goesK (freshK x life) x = true := by
    unfold goesK
    rw [h1, show (freshK x life).src = x.src from rfl, show (freshK x life).ses = x.ses from rfl, show fwdS x = true by unfold fwdS; rw [decide_eq_true h2]; rfl]
    simp
  rw [if_pos (fresh_ok h1 h2 h3).1, if_pos hn, if_pos hg]
theorem rtick_any (s : Tk) (a : Option Addr) (c : Nat) (g : Option Addr) (d : Nat) (now : Int) (w : World) (hc : CameK w s a c g d) :
    Calls Try.prog 21 #[kv s a c g d, .int .i64 now] w fun e w' => RAns w w' e (tiK s now) := by
  unfold tiK
  by_cases h1 : now < s.due
  · have e : (tiK s now) = (s, []) := by unfold tiK; rw [if_neg (by omega)]
    unfold tiK at e
    rw [e]
    refine (rtick_w s a c g d now w (decide_eq_true h1)).mono ?_
    rintro e w' ⟨rfl, hq⟩
    exact rans_own hc rfl rfl rfl hq.out rfl
  · by_cases h4 : s.sta = 4
    · have hs : ({ s with sta := 4 } : Tk) = s := by cases s; simp only at h4; subst h4; rfl
      have e : (tiK s now) = (s, []) := by unfold tiK; rw [if_pos (by omega), hs, if_neg (by omega)]
      unfold tiK at e
      rw [e]
      refine (rtick_v s a c g d now w (decide_eq_false h1) (by simpa using h4)).mono ?_
      rintro e w' ⟨rfl, hq⟩
      exact rans_own hc rfl rfl rfl hq.out rfl
    · by_cases h5 : s.sta = 1
      · have e : (tiK s now) = ({ s with sta := 4 }, [⟨6, s.src, s.ses, 0, 0, 0, 0, 0, 0, 4, false, [], []⟩]) := by unfold tiK; rw [if_pos (by omega), if_pos h5]
        unfold tiK at e
        rw [e]
        refine (rtick_s s a c g d now w (decide_eq_false h1) (by simpa using h5) (by simpa using h4)).mono ?_
        rintro e w' ⟨gg, rfl, hq⟩
        exact rans_own hc rfl rfl rfl hq.out.1 ⟨rfl, gg, 1, none, 0, rfl, hq.out.2.1, hq.out.2.2, rfl, rowC_nil _ _, by simp, by simp, by simp [maxLen], by omega, by simp [maxLen]⟩
      · have e : (tiK s now) = ({ s with sta := 4 }, []) := by unfold tiK; rw [if_pos (by omega), if_neg h5]
        unfold tiK at e
        rw [e]
        refine (rtick_o s a c g d now w (decide_eq_false h1) (by simpa using h4) (by simpa using h5)).mono ?_
        rintro e w' ⟨rfl, hq⟩
        exact rans_own hc rfl rfl rfl hq.out rfl
end Go.Proofs.Ytlhgjhbbiohcnaa
/- ReceiverBegins: whatever segment begins a session as the document says, and whatever session lets a moment come. -/
namespace Go.Proofs.Ytlhgjhbbiohcnaa
open Go.RowKit
set_option linter.unusedVariables false
/-- does New refuse? -/
def badB (x : Sg) (now life : Int) : Bool := !(okS x) || ((x.knd != 1) || (decide (now < 0) || (decide (1048576 < now) || (decide (life < 1) || decide (65536 < life)))))
theorem bad_yes {x : Sg} {now life : Int} (h : badB x now life = true) : newK x now life = (zeroK, [], 2) := by
  refine new_no ?_
  unfold badB at h
  simp only [Bool.or_eq_true, Bool.not_eq_true', bne_iff_ne, decide_eq_true_eq] at h
  rcases h with h | h | h | h | h | h
  · exact .inl h
  · exact .inr (.inl h)
  · exact .inr (.inr (.inr (by unfold inB; rw [decide_eq_false (show ¬ (0 : Int) ≤ now by omega)]; rfl)))
  · exact .inr (.inr (.inr (by unfold inB; rw [decide_eq_false (show ¬ now ≤ (1048576 : Int) by omega)]; simp)))
  · exact .inr (.inr (.inl (by unfold inB; rw [decide_eq_false (show ¬ (1 : Int) ≤ life by omega)]; rfl)))
  · exact .inr (.inr (.inl (by unfold inB; rw [decide_eq_false (show ¬ life ≤ (65536 : Int) by omega)]; simp)))
theorem bad_no {x : Sg} {now life : Int} (h : badB x now life = false) : okS x = true ∧ x.knd = 1 ∧ inB life 1 65536 = true ∧ inB now 0 1048576 = true := by
  unfold badB at h
  simp only [Bool.or_eq_false_iff, Bool.not_eq_false', decide_eq_false_iff_not] at h
  obtain ⟨h1, h2, h3, h4, h5, h6⟩ := h
  refine ⟨h1, by simpa using h2, by unfold inB; simp; omega, by unfold inB; simp; omega⟩
theorem ti_cls (s : Tk) (now : Int) : ∀ X ∈ (tiK s now).2, X.cls.length ≤ 20 := by
  intro X hX
  unfold tiK at hX
  split at hX
  · simp only at hX
    split at hX
    · simp only [List.mem_singleton] at hX; subst hX; simp
    · simp at hX
  · simp at hX
theorem TkP.later {W0 W W' : World} {tb : Nat} {R : Tk × List Sg × Int} {a : Option Addr} {c : Nat} {g : Option Addr} {d : Nat} {v : Value} (h : TkP W0 W tb R a c g d v) (hb : Below W.heap.size W W') : TkP W0 W' tb R a c g d v :=
  ⟨below_of h.bel hb, old_block hb h.box, h.byt.later hb, h.got.later hb, sent_later h.sent hb⟩
theorem tkp_over {W0 w5 : World} {n tb : Nat} {R : Tk × List Sg × Int} {a : Option Addr} {c : Nat} {g : Option Addr} {d : Nat} {v : Value} {T : Tk} {a' : Option Addr} {c' : Nat} {g' : Option Addr} {d' : Nat} (hb : Below W0.heap.size W0 w5) (hz : w5.heap[tb]? = some (kc T a' c' g' d')) (ht : W0.heap.size ≤ tb) (hk : KN n w5 R.1 a c g d) (hs : Sent n w5 v R.2.1) (hn : tb < n) : TkP W0 (w5.setCells tb 0 [.int .i64 R.1.src, .int .u32 (R.1.ses : Nat), .int .i64 R.1.tot, .slice a R.1.byt.length c, .slice g R.1.got.length d, .int .u32 (R.1.ser : Nat), .int .i64 R.1.sta, .int .i64 R.1.lif, .int .i64 R.1.due]) tb R a c g d v := by
  have ho := setC_off w5 tb 0 [.int .i64 R.1.src, .int .u32 (R.1.ses : Nat), .int .i64 R.1.tot, .slice a R.1.byt.length c, .slice g R.1.got.length d, .int .u32 (R.1.ser : Nat), .int .i64 R.1.sta, .int .i64 R.1.lif, .int .i64 R.1.due]
  have hk2 := hk.off ho (fun k e => by have : k = tb := e; omega)
  obtain ⟨_, _, e, h1, h2⟩ := own_form hk.byt
  cases e
  obtain ⟨p1, p2, _, _⟩ := kn_rows hk2 (Nat.le_trans h1 h2)
  exact ⟨hb.trans (ho.below hb.size (fun i e => by have : i = tb := e; omega)), block_stored (zs := kcells T a' c' g' d') hz rfl, p1, p2, (hs.off ho (fun k e => by have : k = tb := e; omega)).base (by omega)⟩
theorem zero_same {W0 wc W : World} {tb : Nat} {R : Tk × List Sg × Int} {a : Option Addr} {c : Nat} {g : Option Addr} {d : Nat} {v : Value} {cu : List Value} (h : TkP W0 wc tb R a c g d v) (hcu : cu = kcells R.1 a c g d) (he : R.1 = zeroK) (hb : Below wc.heap.size wc W) : Calls Try.prog 13 #[.agg cu.toArray, .agg #[.int .i64 0, .int .u32 0, .int .i64 0, .slice none 0 0, .slice none 0 0, .int .u32 0, .int .i64 0, .int .i64 0, .int .i64 0]] W fun e w' => e = .returned (.bool true) ∧ Hid (Below W.heap.size W w') := by
  have := rsameK_any zeroK zeroK a c g d none 0 none 0 W (by rw [← he]; exact h.byt.later hb) (by rw [← he]; exact h.got.later hb) (row_nil _ _) (rowC_nil _ _) (by simp [zeroK]) (by simp [zeroK])
  rw [sameK_refl] at this
  rw [hcu, he]
  exact this
set_option maxRecDepth 20000 in
set_option maxHeartbeats 4000000 in
theorem begins_any (x : Sg) (xa : Option Addr) (xc : Nat) (a2 : Option Addr) (c2 : Nat) (s : Tk) (a : Option Addr) (c : Nat) (g : Option Addr) (d : Nat) (now life : Int) (w : World) (hx : Came w x xa xc a2 c2) (hc : CameK w s a c g d) (hnow : in64 now) (hlife : in64 life) :
    Calls Try.prog 4 #[sv x xa xc a2 c2, kv s a c g d, .agg #[.int .i64 now, .int .i64 life]] w fun e w' => e = .returned (.bool true) ∧ Hid (Below w.heap.size w w') := by
  have HC : Hid (CameK w s a c g d) := hc
  have HX : Hid (Came w x xa xc a2 c2) := hx
  clear hc hx
  obtain ⟨W0, hW0⟩ : ∃ W0, ((w.alloc (sc x xa xc a2 c2)).alloc (kc s a c g d)).alloc (.cells #[.int .i64 now, .int .i64 life] 43) = W0 := ⟨_, rfl⟩
  have hb2 : Below ((w.alloc (sc x xa xc a2 c2)).alloc (kc s a c g d)).heap.size ((w.alloc (sc x xa xc a2 c2)).alloc (kc s a c g d)) W0 := by rw [← hW0]; exact (Below.refl _ _).alloc (Nat.le_refl _) _
  have hb1 : Below (w.alloc (sc x xa xc a2 c2)).heap.size (w.alloc (sc x xa xc a2 c2)) W0 := below_of ((Below.refl _ _).alloc (Nat.le_refl _) _) hb2
  have HB : Hid (Below w.heap.size w W0) := below_of ((Below.refl _ w).alloc (Nat.le_refl _) _) hb1
  have HPT : Hid (W0.heap[w.heap.size]? = some (sc x xa xc a2 c2)) := old_block hb1 (heap_alloc_new w _)
  have HPS : Hid (W0.heap[w.heap.size + 1]? = some (kc s a c g d)) := old_block hb2 (second_new w _ _)
  have HPA : Hid (W0.heap[w.heap.size + 1 + 1]? = some (.cells #[.int .i64 now, .int .i64 life] 43 (0, 0))) := by
    have := heap_alloc_new ((w.alloc (sc x xa xc a2 c2)).alloc (kc s a c g d)) (.cells #[.int .i64 now, .int .i64 life] 43)
    rw [hW0] at this
    show _ = _
    simpa using this
  clear hb1 hb2
  obtain ⟨cs, hcs⟩ : ∃ cs, Hid (cs = kcells s a c g d) := ⟨_, rfl⟩
  obtain ⟨ct, hct⟩ : ∃ ct, Hid (ct = sgcells x xa xc a2 c2) := ⟨_, rfl⟩
  have hs9 : (Try.prog.info? 26).map (·.size) = some 9 := by kernel_rfl
  have hsz : (Try.prog.info? 26).map (·.size) = some cs.length := by rw [show cs.length = 9 by rw [hcs.out]; rfl]; exact hs9
  have htz : (Try.prog.info? 28).map (·.size) = some ct.length := by rw [show ct.length = 13 by rw [hct.out]; rfl]; kernel_rfl
  have HRS : Hid (∀ W, Below W0.heap.size W0 W → W.rangeAt (w.heap.size + 1) 0 cs) := fun W hb => by rw [hcs.out]; exact k_range (old_block hb HPS.out)
  have HRT : Hid (∀ W, Below W0.heap.size W0 W → W.rangeAt w.heap.size 0 ct) := fun W hb => by rw [hct.out]; exact sg_range (old_block hb HPT.out)
  have HLS : Hid (∀ W, Calls Try.prog 9 #[.agg cs.toArray, .agg ct.toArray] W fun e w' => e = .returned (.bool (largeK s x)) ∧ Hid (Below W.heap.size W w')) := fun W => by rw [hcs.out, hct.out]; exact vlarge_any s a c g d x xa xc a2 c2 W
  cases hlg : largeK s x with
  | true =>
    rw [hlg] at HLS
    go_enter Try.func4, Try.ntmps4
    go_wp2_with (first | (go_at_call 8; refine (wakes_any _).mono ?_; rintro e w1 ⟨rfl, hb1⟩; have HBN : Hid (Below W0.heap.size W0 w1) := hb1) | (refine wpList_load_want (by rfl) 26 _ rfl (w.heap.size + 1) 0 (by rfl) cs _ (HRS.out _ HBN.out) Try.underlying26 rfl hsz ?_) | (refine wpList_load_want (by rfl) 28 _ rfl w.heap.size 0 (by rfl) ct _ (HRT.out _ HBN.out) Try.underlying28 rfl htz ?_) | (go_at_call 9; refine (HLS.out _).mono ?_; rintro e w2 ⟨rfl, hb2⟩; have HBN : Hid (Below W0.heap.size W0 w2) := below_of HBN.out hb2.out))
    go_ret
    exact ⟨rfl, below_of HB.out HBN.out⟩
  | false =>
    rw [hlg] at HLS
    go_enter Try.func4, Try.ntmps4
    go_wp2_with (first | (go_at_call 8; refine (wakes_any _).mono ?_; rintro e w1 ⟨rfl, hb1⟩; have HBN : Hid (Below W0.heap.size W0 w1) := hb1) | (refine wpList_load_want (by rfl) 26 _ rfl (w.heap.size + 1) 0 (by rfl) cs _ (HRS.out _ HBN.out) Try.underlying26 rfl hsz ?_) | (refine wpList_load_want (by rfl) 28 _ rfl w.heap.size 0 (by rfl) ct _ (HRT.out _ HBN.out) Try.underlying28 rfl htz ?_) | (go_at_call 9; refine (HLS.out _).mono ?_; rintro e w2 ⟨rfl, hb2⟩; have HBN : Hid (Below W0.heap.size W0 w2) := below_of HBN.out hb2.out; have n0 : w2.cell? ⟨w.heap.size + 1 + 1, 0, none⟩ = some (.int .i64 now) := (by rw [cell_of (old_block HBN.out HPA.out)]; rfl); have n1 : w2.cell? ⟨w.heap.size + 1 + 1, 1, none⟩ = some (.int .i64 life) := (by rw [cell_of (old_block HBN.out HPA.out)]; rfl)))
    go_region_held3 (fun W' => W'.cell? ⟨w.heap.size + 1 + 1, 0, none⟩ = some (.int .i64 now) ∧ W'.cell? ⟨w.heap.size + 1 + 1, 1, none⟩ = some (.int .i64 life)) (exact ⟨n0, n1⟩) (fail)
    have HBM : Hid (Below W0.heap.size W0 w2.drew) := HBN.out.drew
    generalize w2.drew = w3 at HBM ⊢
    clear n0 n1 HBN
    obtain ⟨R, hR⟩ : ∃ R, newK x now life = R := ⟨_, rfl⟩
    have HRE : Hid (newK x now life = R) := hR
    have HNW : Hid (∀ W, Below W0.heap.size W0 W → Calls Try.prog 18 #[.agg ct.toArray, .int .i64 now, .int .i64 life] W fun e w' => Ans W w' e R) := fun W hb => by
      rw [hct.out, ← hR]
      exact vnew_any x xa xc a2 c2 now life W (HX.out.later (below_of HB.out hb))
    have HLN : Hid (s.byt.length ≤ 5000 ∧ s.got.length ≤ 5000) := by
      unfold largeK at hlg
      simp only [Bool.or_eq_false_iff, decide_eq_false_iff_not] at hlg
      exact ⟨by omega, by omega⟩
    clear hR HLS hlg
    go_upto_region 7 with (first | (refine wpList_load_want (by rfl) 28 _ rfl w.heap.size 0 (by rfl) ct _ (HRT.out _ HBM.out) Try.underlying28 rfl htz ?_) | (go_at_call 18; refine (HNW.out _ HBM.out).mono ?_; rintro e w5 ⟨a5, c5, g5, d5, v5, rfl, hb5, hk5, hs5⟩))
    have HT : Hid (TkP W0 (w5.alloc (.cells #[.int .i64 R.1.src, .int .u32 (R.1.ses : Nat), .int .i64 R.1.tot, .slice a5 R.1.byt.length c5, .slice g5 R.1.got.length d5, .int .u32 (R.1.ser : Nat), .int .i64 R.1.sta, .int .i64 R.1.lif, .int .i64 R.1.due] 26)) w5.heap.size R a5 c5 g5 d5 v5) := tkp_new (below_of HBM.out hb5) hk5 hs5 HBM.out.size
    have HTL : Hid (W0.heap.size ≤ w5.heap.size) := (below_of HBM.out hb5).size
    clear hb5 hk5 hs5
    generalize w5.alloc (.cells #[.int .i64 R.1.src, .int .u32 (R.1.ses : Nat), .int .i64 R.1.tot, .slice a5 R.1.byt.length c5, .slice g5 R.1.got.length d5, .int .u32 (R.1.ser : Nat), .int .i64 R.1.sta, .int .i64 R.1.lif, .int .i64 R.1.due] 26) = wt at HT ⊢
    generalize w5.heap.size = tb at HT HTL ⊢
    have HTR : Hid (∀ W, Below W0.heap.size W0 W → Calls Try.prog 14 #[.agg ct.toArray] W fun e w' => e = .returned (.bool (okS x)) ∧ Hid (Below W.heap.size W w')) := fun W hb => by rw [hct.out]; exact rrightS_any x xa xc a2 c2 W (HX.out.later (below_of HB.out hb))
    go_cut [56] from 33 (fun u wd => u = .bool (badB x now life) ∧ Hid (TkP W0 wd tb R a5 c5 g5 d5 v5))
    case first =>
      cases h1 : okS x with
      | false =>
        rw [h1] at HTR
        have HBA : Hid (badB x now life = true) := by show _ = _; unfold badB; rw [h1]; rfl
        go_wp2_with (first | (refine wpList_load_want (by rfl) 28 _ rfl w.heap.size 0 (by rfl) ct _ (HRT.out _ (by first | exact HT.out.bel | exact below_of HT.out.bel HBC.out)) Try.underlying28 rfl htz ?_) | (go_at_call 14; refine (HTR.out _ HT.out.bel).mono ?_; rintro e w7 ⟨rfl, hb7⟩; have HBC : Hid (Below wt.heap.size wt w7) := hb7; have f0 := (scells (old_block (below_of HT.out.bel hb7.out) HPT.out)).1))
        go_meet
        case rel => exact ⟨by rw [HBA.out], HT.out.later HBC.out⟩
      | true =>
        rw [h1] at HTR
        cases h2 : (x.knd != 1) with
        | true =>
          have HBA : Hid (badB x now life = true) := by show _ = _; unfold badB; rw [h1, h2]; rfl
          go_wp2_with (first | (refine wpList_load_want (by rfl) 28 _ rfl w.heap.size 0 (by rfl) ct _ (HRT.out _ (by first | exact HT.out.bel | exact below_of HT.out.bel HBC.out)) Try.underlying28 rfl htz ?_) | (go_at_call 14; refine (HTR.out _ HT.out.bel).mono ?_; rintro e w7 ⟨rfl, hb7⟩; have HBC : Hid (Below wt.heap.size wt w7) := hb7; have f0 := (scells (old_block (below_of HT.out.bel hb7.out) HPT.out)).1))
          go_meet
          case rel => exact ⟨by rw [HBA.out], HT.out.later HBC.out⟩
        | false =>
          cases h3 : decide (now < 0) with
          | true =>
            have HBA : Hid (badB x now life = true) := by show _ = _; unfold badB; rw [h1, h2, h3]; rfl
            go_wp2_with (first | (refine wpList_load_want (by rfl) 28 _ rfl w.heap.size 0 (by rfl) ct _ (HRT.out _ (by first | exact HT.out.bel | exact below_of HT.out.bel HBC.out)) Try.underlying28 rfl htz ?_) | (go_at_call 14; refine (HTR.out _ HT.out.bel).mono ?_; rintro e w7 ⟨rfl, hb7⟩; have HBC : Hid (Below wt.heap.size wt w7) := hb7; have f0 := (scells (old_block (below_of HT.out.bel hb7.out) HPT.out)).1))
            go_meet
            case rel => exact ⟨by rw [HBA.out], HT.out.later HBC.out⟩
          | false =>
            cases h4 : decide (1048576 < now) with
            | true =>
              have HBA : Hid (badB x now life = true) := by show _ = _; unfold badB; rw [h1, h2, h3, h4]; rfl
              go_wp2_with (first | (refine wpList_load_want (by rfl) 28 _ rfl w.heap.size 0 (by rfl) ct _ (HRT.out _ (by first | exact HT.out.bel | exact below_of HT.out.bel HBC.out)) Try.underlying28 rfl htz ?_) | (go_at_call 14; refine (HTR.out _ HT.out.bel).mono ?_; rintro e w7 ⟨rfl, hb7⟩; have HBC : Hid (Below wt.heap.size wt w7) := hb7; have f0 := (scells (old_block (below_of HT.out.bel hb7.out) HPT.out)).1))
              go_meet
              case rel => exact ⟨by rw [HBA.out], HT.out.later HBC.out⟩
            | false =>
              cases h5 : decide (life < 1) with
              | true =>
                have HBA : Hid (badB x now life = true) := by show _ = _; unfold badB; rw [h1, h2, h3, h4, h5]; rfl
                go_wp2_with (first | (refine wpList_load_want (by rfl) 28 _ rfl w.heap.size 0 (by rfl) ct _ (HRT.out _ (by first | exact HT.out.bel | exact below_of HT.out.bel HBC.out)) Try.underlying28 rfl htz ?_) | (go_at_call 14; refine (HTR.out _ HT.out.bel).mono ?_; rintro e w7 ⟨rfl, hb7⟩; have HBC : Hid (Below wt.heap.size wt w7) := hb7; have f0 := (scells (old_block (below_of HT.out.bel hb7.out) HPT.out)).1))
                go_meet
                case rel => exact ⟨by rw [HBA.out], HT.out.later HBC.out⟩
              | false =>
                cases h6 : decide (65536 < life) with
                | true =>
                  have HBA : Hid (badB x now life = true) := by show _ = _; unfold badB; rw [h1, h2, h3, h4, h5, h6]; rfl
                  go_wp2_with (first | (refine wpList_load_want (by rfl) 28 _ rfl w.heap.size 0 (by rfl) ct _ (HRT.out _ (by first | exact HT.out.bel | exact below_of HT.out.bel HBC.out)) Try.underlying28 rfl htz ?_) | (go_at_call 14; refine (HTR.out _ HT.out.bel).mono ?_; rintro e w7 ⟨rfl, hb7⟩; have HBC : Hid (Below wt.heap.size wt w7) := hb7; have f0 := (scells (old_block (below_of HT.out.bel hb7.out) HPT.out)).1))
                  go_meet
                  case rel => exact ⟨by rw [HBA.out], HT.out.later HBC.out⟩
                | false =>
                  have HBA : Hid (badB x now life = false) := by show _ = _; unfold badB; rw [h1, h2, h3, h4, h5, h6]; rfl
                  go_wp2_with (first | (refine wpList_load_want (by rfl) 28 _ rfl w.heap.size 0 (by rfl) ct _ (HRT.out _ (by first | exact HT.out.bel | exact below_of HT.out.bel HBC.out)) Try.underlying28 rfl htz ?_) | (go_at_call 14; refine (HTR.out _ HT.out.bel).mono ?_; rintro e w7 ⟨rfl, hb7⟩; have HBC : Hid (Below wt.heap.size wt w7) := hb7; have f0 := (scells (old_block (below_of HT.out.bel hb7.out) HPT.out)).1))
                  go_meet
                  case rel => exact ⟨by rw [HBA.out], HT.out.later HBC.out⟩
    case rest =>
      obtain ⟨rfl, HT0⟩ := hcut
      have HT : Hid (TkP W0 wc tb R a5 c5 g5 d5 v5) := HT0
      clear HT0
      have HSZ : True := trivial
      obtain ⟨cu, hcu⟩ : ∃ cu, Hid (cu = kcells R.1 a5 c5 g5 d5) := ⟨_, rfl⟩
      have huz : (Try.prog.info? 26).map (·.size) = some cu.length := by rw [show cu.length = 9 by rw [hcu.out]; rfl]; exact hs9
      have HRU : Hid (∀ W, Below wc.heap.size wc W → W.rangeAt tb 0 cu) := fun W hb => by rw [hcu.out]; exact k_range (old_block hb HT.out.box)
      have HBC : Hid (Below wc.heap.size wc wc) := Below.refl _ _
      cases hbad : badB x now life with
      | true =>
        have hR : R = (zeroK, [], 2) := by rw [← HRE.out]; exact bad_yes hbad
        have hv5 : v5 = .slice none 0 0 := by have := HT.out.sent; rw [hR] at this; exact this
        have he2 : R.2.2 = 2 := by rw [hR]
        have HSY : Hid (∀ W, Below wc.heap.size wc W → Calls Try.prog 13 #[.agg cu.toArray, .agg #[.int .i64 0, .int .u32 0, .int .i64 0, .slice none 0 0, .slice none 0 0, .int .u32 0, .int .i64 0, .int .i64 0, .int .i64 0]] W fun e w' => e = .returned (.bool true) ∧ Hid (Below W.heap.size W w')) := fun W hb => zero_same HT.out hcu.out (by rw [hR]) hb
        rw [he2]
        subst hv5
        clear hR he2 hbad
        obtain ⟨R2, hR2⟩ : ∃ R2, tickK s now = R2 := ⟨_, rfl⟩
        have HR2 : Hid (tickK s now = R2) := hR2
        have HTI : Hid (∀ W a' c' g' d', CameK W s a' c' g' d' → Calls Try.prog 20 #[kv s a' c' g' d', .int .i64 now] W fun e w' => Ans W w' e R2) := fun W a' c' g' d' hk => by rw [← hR2]; exact vtick_any s a' c' g' d' now W hk
        have HCP : Hid (∀ W, Below W0.heap.size W0 W → Calls Try.prog 11 #[.agg cs.toArray] W fun e w' => ∃ a' c' g' d', e = .returned (kv s a' c' g' d') ∧ Hid (Below W.heap.size W w' ∧ CameK w' s a' c' g' d')) := fun W hb => by rw [hcs.out]; exact vcop_any s a c g d W (HC.out.later (below_of HB.out hb)) HLN.out.1 HLN.out.2
        clear hR2
        go_wp2_with (first | (refine wpList_load_want (by rfl) 26 _ rfl tb 0 (by rfl) cu _ (HRU.out _ (by first | exact HBC.out | exact HBE.out _)) Try.underlying26 rfl huz ?_) | (go_at_call 13; refine (HSY.out _ HBC.out).mono ?_; rintro e w6 ⟨rfl, hb6⟩; have HBC : Hid (Below wc.heap.size wc w6) := below_of HBC.out hb6.out) | (refine wpList_load_want (by rfl) 26 _ rfl (w.heap.size + 1) 0 (by rfl) cs _ (HRS.out _ (by first | exact HT2b.out.bel | exact below_of HT.out.bel HBC.out)) Try.underlying26 rfl hsz ?_) | (go_at_call 11; refine (HCP.out _ (below_of HT.out.bel HBC.out)).mono ?_; rintro e w12 ⟨a6, c6, g6, d6, rfl, hq6⟩) | (go_at_call 20; refine (HTI.out _ a6 c6 g6 d6 hq6.out.2).mono ?_; rintro e w13 ⟨a8, c8, g8, d8, v8, rfl, hb13, hk13, hs13⟩; have HX4 : Hid (Below W0.heap.size W0 w13) := below_of (below_of (below_of HT.out.bel HBC.out) hq6.out.1) hb13; have ZB : Hid (w13.heap[tb]? = some (kc R.1 a5 c5 g5 d5)) := old_block hb13 (old_block hq6.out.1 (old_block HBC.out HT.out.box)); have HTH : Hid (w13.there tb 0 (kcells R2.1 a8 c8 g8 d8).toArray.size) := (k_there ZB.out : w13.there tb 0 9); have HON : Hid ((kcells R2.1 a8 c8 g8 d8).toArray.all (·.oneCell') = true) := k_one R2.1 a8 c8 g8 d8; have HT2 : Hid (TkP W0 (w13.setCells tb 0 (kcells R2.1 a8 c8 g8 d8)) tb R2 a8 c8 g8 d8 v8) := tkp_over HX4.out ZB.out HTL.out hk13 hs13 (Nat.lt_of_lt_of_le (Array.getElem?_eq_some_iff.1 HT.out.box).1 (Nat.le_trans HBC.out.size hq6.out.1.size)); clear hb13 hk13 hs13) | (refine wpList_store_mid rfl 26 _ _ rfl tb 0 (kcells R2.1 a8 c8 g8 d8).toArray (by rfl) (by rfl) HTH.out hs9 HON.out ?_; generalize hwd : w13.setCells tb 0 (kcells R2.1 a8 c8 g8 d8).toArray.toList = wd; have HT2b : Hid (TkP W0 wd tb R2 a8 c8 g8 d8 v8) := (by rw [← hwd]; exact HT2.out); clear hwd HT2))
        clear HSY hb6
        have HRI : Hid (∀ W, Below W0.heap.size W0 W → Calls Try.prog 12 #[.agg cs.toArray] W fun e w' => e = .returned (.bool (okK s)) ∧ Hid (Below W.heap.size W w')) := fun W hb => by rw [hcs.out]; exact rrightAll_any s a c g d W (HC.out.later (below_of HB.out hb))
        clear hq6 ZB HX4 HTH HON HTI HCP HRU hcu huz HBC HT
        obtain ⟨cv, hcv⟩ : ∃ cv, Hid (cv = kcells R2.1 a8 c8 g8 d8) := ⟨_, rfl⟩
        have hvz : (Try.prog.info? 26).map (·.size) = some cv.length := by rw [show cv.length = 9 by rw [hcv.out]; rfl]; exact hs9
        have HRV : Hid (∀ W, Below wd.heap.size wd W → W.rangeAt tb 0 cv) := fun W hb => by rw [hcv.out]; exact k_range (old_block hb HT2b.out.box)
        cases hok : okK s with
        | false =>
          rw [hok] at HRI
          have hR2 : R2 = (zeroK, [], 250) := by rw [← HR2.out]; unfold tickK; rw [if_neg (by simp [hok])]
          have hv : v8 = .slice none 0 0 := by have := HT2b.out.sent; rw [hR2] at this; exact this
          have he2 : R2.2.2 = 250 := by rw [hR2]
          have HSY : Hid (∀ W, Below wd.heap.size wd W → Calls Try.prog 13 #[.agg cv.toArray, .agg #[.int .i64 0, .int .u32 0, .int .i64 0, .slice none 0 0, .slice none 0 0, .int .u32 0, .int .i64 0, .int .i64 0, .int .i64 0]] W fun e w' => e = .returned (.bool true) ∧ Hid (Below W.heap.size W w')) := fun W hb => zero_same HT2b.out hcv.out (by rw [hR2]) hb
          rw [he2]
          subst hv
          clear hR2 he2
          go_wp2_with (first | (go_at_call 12; refine (HRI.out _ HT2b.out.bel).mono ?_; rintro e w15 ⟨rfl, hb15⟩; have HBC : Hid (Below wd.heap.size wd w15) := hb15) | (refine wpList_load_want (by rfl) 26 _ rfl (w.heap.size + 1) 0 (by rfl) cs _ (HRS.out _ (by first | exact HT2b.out.bel | exact below_of HT2b.out.bel HBC.out)) Try.underlying26 rfl hsz ?_) | (refine wpList_load_want (by rfl) 26 _ rfl tb 0 (by rfl) cv _ (HRV.out _ (by first | exact HBC.out | exact HBE2.out _)) Try.underlying26 rfl hvz ?_) | (go_at_call 13; refine (HSY.out _ HBC.out).mono ?_; rintro e w16 ⟨rfl, hb16⟩))
          go_ret
          exact ⟨rfl, below_of HB.out (below_of (below_of HT2b.out.bel HBC.out) hb16.out)⟩
        | true =>
          rw [hok] at HRI
          cases h5 : decide (now < 0) with
          | true =>
            have hR2 : R2 = (zeroK, [], 2) := by rw [← HR2.out]; unfold tickK; rw [if_pos hok, if_neg (by unfold inB; rw [decide_eq_false (show ¬ (0 : Int) ≤ now by simp at h5; omega)]; simp)]
            have hv : v8 = .slice none 0 0 := by have := HT2b.out.sent; rw [hR2] at this; exact this
            have he2 : R2.2.2 = 2 := by rw [hR2]
            have HSY : Hid (∀ W, Below wd.heap.size wd W → Calls Try.prog 13 #[.agg cv.toArray, .agg #[.int .i64 0, .int .u32 0, .int .i64 0, .slice none 0 0, .slice none 0 0, .int .u32 0, .int .i64 0, .int .i64 0, .int .i64 0]] W fun e w' => e = .returned (.bool true) ∧ Hid (Below W.heap.size W w')) := fun W hb => zero_same HT2b.out hcv.out (by rw [hR2]) hb
            rw [he2]
            subst hv
            clear hR2 he2
            go_wp2_with (first | (go_at_call 12; refine (HRI.out _ HT2b.out.bel).mono ?_; rintro e w15 ⟨rfl, hb15⟩; have HBC : Hid (Below wd.heap.size wd w15) := hb15) | (refine wpList_load_want (by rfl) 26 _ rfl (w.heap.size + 1) 0 (by rfl) cs _ (HRS.out _ (by first | exact HT2b.out.bel | exact below_of HT2b.out.bel HBC.out)) Try.underlying26 rfl hsz ?_) | (refine wpList_load_want (by rfl) 26 _ rfl tb 0 (by rfl) cv _ (HRV.out _ (by first | exact HBC.out | exact HBE2.out _)) Try.underlying26 rfl hvz ?_) | (go_at_call 13; refine (HSY.out _ HBC.out).mono ?_; rintro e w16 ⟨rfl, hb16⟩))
            go_ret
            exact ⟨rfl, below_of HB.out (below_of (below_of HT2b.out.bel HBC.out) hb16.out)⟩
          | false =>
            cases h6 : decide (1048576 < now) with
            | true =>
              have hR2 : R2 = (zeroK, [], 2) := by rw [← HR2.out]; unfold tickK; rw [if_pos hok, if_neg (by unfold inB; rw [decide_eq_false (show ¬ now ≤ (1048576 : Int) by simp at h6; omega)]; simp)]
              have hv : v8 = .slice none 0 0 := by have := HT2b.out.sent; rw [hR2] at this; exact this
              have he2 : R2.2.2 = 2 := by rw [hR2]
              have HSY : Hid (∀ W, Below wd.heap.size wd W → Calls Try.prog 13 #[.agg cv.toArray, .agg #[.int .i64 0, .int .u32 0, .int .i64 0, .slice none 0 0, .slice none 0 0, .int .u32 0, .int .i64 0, .int .i64 0, .int .i64 0]] W fun e w' => e = .returned (.bool true) ∧ Hid (Below W.heap.size W w')) := fun W hb => zero_same HT2b.out hcv.out (by rw [hR2]) hb
              rw [he2]
              subst hv
              clear hR2 he2
              go_wp2_with (first | (go_at_call 12; refine (HRI.out _ HT2b.out.bel).mono ?_; rintro e w15 ⟨rfl, hb15⟩; have HBC : Hid (Below wd.heap.size wd w15) := hb15) | (refine wpList_load_want (by rfl) 26 _ rfl (w.heap.size + 1) 0 (by rfl) cs _ (HRS.out _ (by first | exact HT2b.out.bel | exact below_of HT2b.out.bel HBC.out)) Try.underlying26 rfl hsz ?_) | (refine wpList_load_want (by rfl) 26 _ rfl tb 0 (by rfl) cv _ (HRV.out _ (by first | exact HBC.out | exact HBE2.out _)) Try.underlying26 rfl hvz ?_) | (go_at_call 13; refine (HSY.out _ HBC.out).mono ?_; rintro e w16 ⟨rfl, hb16⟩))
              go_ret
              exact ⟨rfl, below_of HB.out (below_of (below_of HT2b.out.bel HBC.out) hb16.out)⟩
            | false =>
              have hin : inB now 0 1048576 = true := by unfold inB; rw [decide_eq_true (show (0 : Int) ≤ now by simp at h5; omega), decide_eq_true (show now ≤ (1048576 : Int) by simp at h6; omega)]; rfl
              obtain ⟨T, hT⟩ : ∃ T, (tiK s now).1 = T := ⟨_, rfl⟩
              obtain ⟨L, hL⟩ : ∃ L, (tiK s now).2 = L := ⟨_, rfl⟩
              have HCL : Hid (∀ X ∈ L, X.cls.length ≤ 20) := by
                show ∀ X ∈ L, X.cls.length ≤ 20
                rw [← hL]; exact ti_cls s now
              have hRR : R2 = (T, L, 0) := by rw [← HR2.out]; unfold tickK; rw [if_pos hok, if_pos hin, hT, hL]
              have HRR : Hid (R2 = (T, L, 0)) := hRR
              have he2 : R2.2.2 = 0 := by rw [hRR]
              rw [he2]
              have HTA : Hid (∀ W, Below W0.heap.size W0 W → Calls Try.prog 21 #[.agg cs.toArray, .int .i64 now] W fun e w' => RAns W w' e (T, L)) := fun W hb => by
                have := rtick_any s a c g d now W (HC.out.later (below_of HB.out hb))
                rw [show tiK s now = (T, L) by rw [← hT, ← hL]] at this
                rw [hcs.out]
                exact this
              clear hin hT hL hRR he2
              go_wp2_with (first | (go_at_call 12; refine (HRI.out _ HT2b.out.bel).mono ?_; rintro e w15 ⟨rfl, hb15⟩; have HBC : Hid (Below wd.heap.size wd w15) := hb15) | (refine wpList_load_want (by rfl) 26 _ rfl (w.heap.size + 1) 0 (by rfl) cs _ (HRS.out _ (by first | exact HT2b.out.bel | exact below_of HT2b.out.bel HBC.out)) Try.underlying26 rfl hsz ?_) | (refine wpList_load_want (by rfl) 26 _ rfl tb 0 (by rfl) cv _ (HRV.out _ (by first | exact HBC.out | exact HBE2.out _)) Try.underlying26 rfl hvz ?_) | (go_at_call 21; refine (HTA.out _ (below_of HT2b.out.bel HBC.out)).mono ?_; rintro e w17 ⟨a9, c9, g9, d9, v9, rfl, hq9⟩; have HQ9 : Hid _ := hq9; clear hq9; have HBD : Hid (Below wd.heap.size wd w17) := below_of HBC.out HQ9.out.1; have HBE2 : Hid (∀ X, Below wd.heap.size wd (w17.alloc X)) := fun X => HBD.out.alloc HBD.out.size X; have HSW : Hid (∀ X, Calls Try.prog 13 #[.agg cv.toArray, kv T a9 c9 g9 d9] (w17.alloc X) fun e w' => e = .returned (.bool true) ∧ Hid (Below (w17.alloc X).heap.size (w17.alloc X) w')) := fun X => ends_same HT2b.out hcv.out HRR.out (HBE2.out X) HQ9.out.2.1 HQ9.out.2.2.1 HQ9.out.2.2.2.1; have HSL : Hid (∀ X W, Below (w17.alloc X).heap.size (w17.alloc X) W → Calls Try.prog 17 #[v8, v9] W fun e w' => e = .returned (.bool true) ∧ Hid (Below W.heap.size W w')) := fun X W hb => ends_all HT2b.out HRR.out (HBE2.out X) hb HQ9.out.2.2.2.2 HCL.out) | (go_at_call 13; refine (HSW.out _).mono ?_; rintro e w18 ⟨rfl, hb18⟩) | (go_at_call 17; refine (HSL.out _ _ hb18.out).mono ?_; rintro e w19 ⟨rfl, hb19⟩))
              go_ret
              exact ⟨rfl, below_of HB.out (below_of (below_of (below_of HT2b.out.bel (HBE2.out _)) hb18.out) hb19.out)⟩
      | false =>
        obtain ⟨g1, g2, g3, g4⟩ := bad_no hbad
        obtain ⟨T, hT⟩ : ∃ T, (tkK (freshK x life) x now).1 = T := ⟨_, rfl⟩
        obtain ⟨L, hL⟩ : ∃ L, (tkK (freshK x life) x now).2 = L := ⟨_, rfl⟩
        have HCL : Hid (∀ X ∈ L, X.cls.length ≤ 20) := by
          show ∀ X ∈ L, X.cls.length ≤ 20
          rw [← hL]; exact tk_cls _ x now
        have hRR : R = (T, L, 0) := by rw [← HRE.out, new_yes g1 g2 g3 g4, hT, hL]
        have HRR : Hid (R = (T, L, 0)) := hRR
        have he2 : R.2.2 = 0 := by rw [hRR]
        rw [he2]
        have HNA : Hid (∀ W, Below W0.heap.size W0 W → Calls Try.prog 19 #[.agg ct.toArray, .int .i64 now, .int .i64 life] W fun e w' => RAns W w' e (T, L)) := fun W hb => by
          have := rnew_any x xa xc a2 c2 now life W (HX.out.later (below_of HB.out hb)) g1 g2 g3 g4
          rw [show tkK (freshK x life) x now = (T, L) by rw [← hT, ← hL]] at this
          rw [hct.out]
          exact this
        clear hT hL hRR he2 hbad g1 g2 g3 g4
        obtain ⟨R2, hR2⟩ : ∃ R2, tickK s now = R2 := ⟨_, rfl⟩
        have HR2 : Hid (tickK s now = R2) := hR2
        have HTI : Hid (∀ W a' c' g' d', CameK W s a' c' g' d' → Calls Try.prog 20 #[kv s a' c' g' d', .int .i64 now] W fun e w' => Ans W w' e R2) := fun W a' c' g' d' hk => by rw [← hR2]; exact vtick_any s a' c' g' d' now W hk
        have HCP : Hid (∀ W, Below W0.heap.size W0 W → Calls Try.prog 11 #[.agg cs.toArray] W fun e w' => ∃ a' c' g' d', e = .returned (kv s a' c' g' d') ∧ Hid (Below W.heap.size W w' ∧ CameK w' s a' c' g' d')) := fun W hb => by rw [hcs.out]; exact vcop_any s a c g d W (HC.out.later (below_of HB.out hb)) HLN.out.1 HLN.out.2
        clear hR2
        go_wp2_with (first | (refine wpList_load_want (by rfl) 28 _ rfl w.heap.size 0 (by rfl) ct _ (HRT.out _ (below_of HT.out.bel HBC.out)) Try.underlying28 rfl htz ?_) | (go_at_call 19; refine (HNA.out _ (below_of HT.out.bel HBC.out)).mono ?_; rintro e w9 ⟨a9, c9, g9, d9, v9, rfl, hq9⟩; have HQ9 : Hid _ := hq9; clear hq9; have HBD : Hid (Below wc.heap.size wc w9) := below_of HBC.out HQ9.out.1; have HBE : Hid (∀ X, Below wc.heap.size wc (w9.alloc X)) := fun X => HBD.out.alloc HBD.out.size X; have HSW : Hid (∀ X, Calls Try.prog 13 #[.agg cu.toArray, kv T a9 c9 g9 d9] (w9.alloc X) fun e w' => e = .returned (.bool true) ∧ Hid (Below (w9.alloc X).heap.size (w9.alloc X) w')) := fun X => ends_same HT.out hcu.out HRR.out (HBE.out X) HQ9.out.2.1 HQ9.out.2.2.1 HQ9.out.2.2.2.1; have HSL : Hid (∀ X W, Below (w9.alloc X).heap.size (w9.alloc X) W → Calls Try.prog 17 #[v5, v9] W fun e w' => e = .returned (.bool true) ∧ Hid (Below W.heap.size W w')) := fun X W hb => ends_all HT.out HRR.out (HBE.out X) hb HQ9.out.2.2.2.2 HCL.out) | (go_at_call 13; refine (HSW.out _).mono ?_; rintro e w10 ⟨rfl, hb10⟩) | (go_at_call 17; refine (HSL.out _ _ hb10.out).mono ?_; rintro e w11 ⟨rfl, hb11⟩; have HBC : Hid (Below wc.heap.size wc w11) := below_of (below_of (HBE.out _) hb10.out) hb11.out) | (refine wpList_load_want (by rfl) 26 _ rfl tb 0 (by rfl) cu _ (HRU.out _ (HBE.out _)) Try.underlying26 rfl huz ?_) | (refine wpList_load_want (by rfl) 26 _ rfl (w.heap.size + 1) 0 (by rfl) cs _ (HRS.out _ (by first | exact HT2b.out.bel | exact below_of HT.out.bel HBC.out)) Try.underlying26 rfl hsz ?_) | (go_at_call 11; refine (HCP.out _ (below_of HT.out.bel HBC.out)).mono ?_; rintro e w12 ⟨a6, c6, g6, d6, rfl, hq6⟩) | (go_at_call 20; refine (HTI.out _ a6 c6 g6 d6 hq6.out.2).mono ?_; rintro e w13 ⟨a8, c8, g8, d8, v8, rfl, hb13, hk13, hs13⟩; have HX4 : Hid (Below W0.heap.size W0 w13) := below_of (below_of (below_of HT.out.bel HBC.out) hq6.out.1) hb13; have ZB : Hid (w13.heap[tb]? = some (kc R.1 a5 c5 g5 d5)) := old_block hb13 (old_block hq6.out.1 (old_block HBC.out HT.out.box)); have HTH : Hid (w13.there tb 0 (kcells R2.1 a8 c8 g8 d8).toArray.size) := (k_there ZB.out : w13.there tb 0 9); have HON : Hid ((kcells R2.1 a8 c8 g8 d8).toArray.all (·.oneCell') = true) := k_one R2.1 a8 c8 g8 d8; have HT2 : Hid (TkP W0 (w13.setCells tb 0 (kcells R2.1 a8 c8 g8 d8)) tb R2 a8 c8 g8 d8 v8) := tkp_over HX4.out ZB.out HTL.out hk13 hs13 (Nat.lt_of_lt_of_le (Array.getElem?_eq_some_iff.1 HT.out.box).1 (Nat.le_trans HBC.out.size hq6.out.1.size)); clear hb13 hk13 hs13) | (refine wpList_store_mid rfl 26 _ _ rfl tb 0 (kcells R2.1 a8 c8 g8 d8).toArray (by rfl) (by rfl) HTH.out hs9 HON.out ?_; generalize hwd : w13.setCells tb 0 (kcells R2.1 a8 c8 g8 d8).toArray.toList = wd; have HT2b : Hid (TkP W0 wd tb R2 a8 c8 g8 d8 v8) := (by rw [← hwd]; exact HT2.out); clear hwd HT2))
        clear HSW HSL HQ9 HBD HBE hb10 hb11 HNA HCL HRR
        have HRI : Hid (∀ W, Below W0.heap.size W0 W → Calls Try.prog 12 #[.agg cs.toArray] W fun e w' => e = .returned (.bool (okK s)) ∧ Hid (Below W.heap.size W w')) := fun W hb => by rw [hcs.out]; exact rrightAll_any s a c g d W (HC.out.later (below_of HB.out hb))
        clear hq6 ZB HX4 HTH HON HTI HCP HRU hcu huz HBC HT
        obtain ⟨cv, hcv⟩ : ∃ cv, Hid (cv = kcells R2.1 a8 c8 g8 d8) := ⟨_, rfl⟩
        have hvz : (Try.prog.info? 26).map (·.size) = some cv.length := by rw [show cv.length = 9 by rw [hcv.out]; rfl]; exact hs9
        have HRV : Hid (∀ W, Below wd.heap.size wd W → W.rangeAt tb 0 cv) := fun W hb => by rw [hcv.out]; exact k_range (old_block hb HT2b.out.box)
        cases hok : okK s with
        | false =>
          rw [hok] at HRI
          have hR2 : R2 = (zeroK, [], 250) := by rw [← HR2.out]; unfold tickK; rw [if_neg (by simp [hok])]
          have hv : v8 = .slice none 0 0 := by have := HT2b.out.sent; rw [hR2] at this; exact this
          have he2 : R2.2.2 = 250 := by rw [hR2]
          have HSY : Hid (∀ W, Below wd.heap.size wd W → Calls Try.prog 13 #[.agg cv.toArray, .agg #[.int .i64 0, .int .u32 0, .int .i64 0, .slice none 0 0, .slice none 0 0, .int .u32 0, .int .i64 0, .int .i64 0, .int .i64 0]] W fun e w' => e = .returned (.bool true) ∧ Hid (Below W.heap.size W w')) := fun W hb => zero_same HT2b.out hcv.out (by rw [hR2]) hb
          rw [he2]
          subst hv
          clear hR2 he2
          go_wp2_with (first | (go_at_call 12; refine (HRI.out _ HT2b.out.bel).mono ?_; rintro e w15 ⟨rfl, hb15⟩; have HBC : Hid (Below wd.heap.size wd w15) := hb15) | (refine wpList_load_want (by rfl) 26 _ rfl (w.heap.size + 1) 0 (by rfl) cs _ (HRS.out _ (by first | exact HT2b.out.bel | exact below_of HT2b.out.bel HBC.out)) Try.underlying26 rfl hsz ?_) | (refine wpList_load_want (by rfl) 26 _ rfl tb 0 (by rfl) cv _ (HRV.out _ (by first | exact HBC.out | exact HBE2.out _)) Try.underlying26 rfl hvz ?_) | (go_at_call 13; refine (HSY.out _ HBC.out).mono ?_; rintro e w16 ⟨rfl, hb16⟩))
          go_ret
          exact ⟨rfl, below_of HB.out (below_of (below_of HT2b.out.bel HBC.out) hb16.out)⟩
        | true =>
          rw [hok] at HRI
          cases h5 : decide (now < 0) with
          | true =>
            have hR2 : R2 = (zeroK, [], 2) := by rw [← HR2.out]; unfold tickK; rw [if_pos hok, if_neg (by unfold inB; rw [decide_eq_false (show ¬ (0 : Int) ≤ now by simp at h5; omega)]; simp)]
            have hv : v8 = .slice none 0 0 := by have := HT2b.out.sent; rw [hR2] at this; exact this
            have he2 : R2.2.2 = 2 := by rw [hR2]
            have HSY : Hid (∀ W, Below wd.heap.size wd W → Calls Try.prog 13 #[.agg cv.toArray, .agg #[.int .i64 0, .int .u32 0, .int .i64 0, .slice none 0 0, .slice none 0 0, .int .u32 0, .int .i64 0, .int .i64 0, .int .i64 0]] W fun e w' => e = .returned (.bool true) ∧ Hid (Below W.heap.size W w')) := fun W hb => zero_same HT2b.out hcv.out (by rw [hR2]) hb
            rw [he2]
            subst hv
            clear hR2 he2
            go_wp2_with (first | (go_at_call 12; refine (HRI.out _ HT2b.out.bel).mono ?_; rintro e w15 ⟨rfl, hb15⟩; have HBC : Hid (Below wd.heap.size wd w15) := hb15) | (refine wpList_load_want (by rfl) 26 _ rfl (w.heap.size + 1) 0 (by rfl) cs _ (HRS.out _ (by first | exact HT2b.out.bel | exact below_of HT2b.out.bel HBC.out)) Try.underlying26 rfl hsz ?_) | (refine wpList_load_want (by rfl) 26 _ rfl tb 0 (by rfl) cv _ (HRV.out _ (by first | exact HBC.out | exact HBE2.out _)) Try.underlying26 rfl hvz ?_) | (go_at_call 13; refine (HSY.out _ HBC.out).mono ?_; rintro e w16 ⟨rfl, hb16⟩))
            go_ret
            exact ⟨rfl, below_of HB.out (below_of (below_of HT2b.out.bel HBC.out) hb16.out)⟩
          | false =>
            cases h6 : decide (1048576 < now) with
            | true =>
              have hR2 : R2 = (zeroK, [], 2) := by rw [← HR2.out]; unfold tickK; rw [if_pos hok, if_neg (by unfold inB; rw [decide_eq_false (show ¬ now ≤ (1048576 : Int) by simp at h6; omega)]; simp)]
              have hv : v8 = .slice none 0 0 := by have := HT2b.out.sent; rw [hR2] at this; exact this
              have he2 : R2.2.2 = 2 := by rw [hR2]
              have HSY : Hid (∀ W, Below wd.heap.size wd W → Calls Try.prog 13 #[.agg cv.toArray, .agg #[.int .i64 0, .int .u32 0, .int .i64 0, .slice none 0 0, .slice none 0 0, .int .u32 0, .int .i64 0, .int .i64 0, .int .i64 0]] W fun e w' => e = .returned (.bool true) ∧ Hid (Below W.heap.size W w')) := fun W hb => zero_same HT2b.out hcv.out (by rw [hR2]) hb
              rw [he2]
              subst hv
              clear hR2 he2
              go_wp2_with (first | (go_at_call 12; refine (HRI.out _ HT2b.out.bel).mono ?_; rintro e w15 ⟨rfl, hb15⟩; have HBC : Hid (Below wd.heap.size wd w15) := hb15) | (refine wpList_load_want (by rfl) 26 _ rfl (w.heap.size + 1) 0 (by rfl) cs _ (HRS.out _ (by first | exact HT2b.out.bel | exact below_of HT2b.out.bel HBC.out)) Try.underlying26 rfl hsz ?_) | (refine wpList_load_want (by rfl) 26 _ rfl tb 0 (by rfl) cv _ (HRV.out _ (by first | exact HBC.out | exact HBE2.out _)) Try.underlying26 rfl hvz ?_) | (go_at_call 13; refine (HSY.out _ HBC.out).mono ?_; rintro e w16 ⟨rfl, hb16⟩))
              go_ret
              exact ⟨rfl, below_of HB.out (below_of (below_of HT2b.out.bel HBC.out) hb16.out)⟩
            | false =>
              have hin : inB now 0 1048576 = true := by unfold inB; rw [decide_eq_true (show (0 : Int) ≤ now by simp at h5; omega), decide_eq_true (show now ≤ (1048576 : Int) by simp at h6; omega)]; rfl
              obtain ⟨T, hT⟩ : ∃ T, (tiK s now).1 = T := ⟨_, rfl⟩
              obtain ⟨L, hL⟩ : ∃ L, (tiK s now).2 = L := ⟨_, rfl⟩
              have HCL : Hid (∀ X ∈ L, X.cls.length ≤ 20) := by
                show ∀ X ∈ L, X.cls.length ≤ 20
                rw [← hL]; exact ti_cls s now
              have hRR : R2 = (T, L, 0) := by rw [← HR2.out]; unfold tickK; rw [if_pos hok, if_pos hin, hT, hL]
              have HRR : Hid (R2 = (T, L, 0)) := hRR
              have he2 : R2.2.2 = 0 := by rw [hRR]
              rw [he2]
              have HTA : Hid (∀ W, Below W0.heap.size W0 W → Calls Try.prog 21 #[.agg cs.toArray, .int .i64 now] W fun e w' => RAns W w' e (T, L)) := fun W hb => by
                have := rtick_any s a c g d now W (HC.out.later (below_of HB.out hb))
                rw [show tiK s now = (T, L) by rw [← hT, ← hL]] at this
                rw [hcs.out]
                exact this
              clear hin hT hL hRR he2
              go_wp2_with (first | (go_at_call 12; refine (HRI.out _ HT2b.out.bel).mono ?_; rintro e w15 ⟨rfl, hb15⟩; have HBC : Hid (Below wd.heap.size wd w15) := hb15) | (refine wpList_load_want (by rfl) 26 _ rfl (w.heap.size + 1) 0 (by rfl) cs _ (HRS.out _ (by first | exact HT2b.out.bel | exact below_of HT2b.out.bel HBC.out)) Try.underlying26 rfl hsz ?_) | (refine wpList_load_want (by rfl) 26 _ rfl tb 0 (by rfl) cv _ (HRV.out _ (by first | exact HBC.out | exact HBE2.out _)) Try.underlying26 rfl hvz ?_) | (go_at_call 21; refine (HTA.out _ (below_of HT2b.out.bel HBC.out)).mono ?_; rintro e w17 ⟨a9, c9, g9, d9, v9, rfl, hq9⟩; have HQ9 : Hid _ := hq9; clear hq9; have HBD : Hid (Below wd.heap.size wd w17) := below_of HBC.out HQ9.out.1; have HBE2 : Hid (∀ X, Below wd.heap.size wd (w17.alloc X)) := fun X => HBD.out.alloc HBD.out.size X; have HSW : Hid (∀ X, Calls Try.prog 13 #[.agg cv.toArray, kv T a9 c9 g9 d9] (w17.alloc X) fun e w' => e = .returned (.bool true) ∧ Hid (Below (w17.alloc X).heap.size (w17.alloc X) w')) := fun X => ends_same HT2b.out hcv.out HRR.out (HBE2.out X) HQ9.out.2.1 HQ9.out.2.2.1 HQ9.out.2.2.2.1; have HSL : Hid (∀ X W, Below (w17.alloc X).heap.size (w17.alloc X) W → Calls Try.prog 17 #[v8, v9] W fun e w' => e = .returned (.bool true) ∧ Hid (Below W.heap.size W w')) := fun X W hb => ends_all HT2b.out HRR.out (HBE2.out X) hb HQ9.out.2.2.2.2 HCL.out) | (go_at_call 13; refine (HSW.out _).mono ?_; rintro e w18 ⟨rfl, hb18⟩) | (go_at_call 17; refine (HSL.out _ _ hb18.out).mono ?_; rintro e w19 ⟨rfl, hb19⟩))
              go_ret
              exact ⟨rfl, below_of HB.out (below_of (below_of (below_of HT2b.out.bel (HBE2.out _)) hb18.out) hb19.out)⟩
end Go.Proofs.Ytlhgjhbbiohcnaa
/- What came in: a segment. -/
namespace Go.Proofs.Ytlhgjhbbiohcnaa
open Go.RowKit Go.Deep Go.ChangeShapes Go.WideShapes
set_option linter.unusedVariables false
theorem cellsSegment : Try.prog.cellsOf 28 = 13 := by kernel_rfl
theorem cellsU32 : Try.prog.cellsOf 22 = 1 := by kernel_rfl
theorem cellsBool : Try.prog.cellsOf 4 = 1 := by kernel_rfl
theorem cellsClaim : Try.prog.cellsOf 60 = 2 := by kernel_rfl
theorem cellsClaims : Try.prog.cellsOf 24 = 1 := by kernel_rfl
theorem bytesClaim : Try.prog.bytesOf 60 = 16 := by kernel_rfl
section
variable {H : Type} {enc : TypeId × Value → H} {w : World} {base : Nat} {held : Bool}
theorem open_claims {fuel : Nat} {cs : List Value} {x : DataW H × List MemPlace} (h : DataW.trod enc Try.prog w base (fun _ => true) held fuel 24 cs = some x) (hf : Fit 24 x.1) :
    ∃ a c L, cs = [.slice a (L : List (Int × Int)).length c] ∧ L.length ≤ c ∧ c ≤ maxLen ∧ RowC w a L ∧ (∀ x ∈ L, in64 x.1 ∧ in64 x.2) ∧ L.length ≤ 140737488351232 := by
  rcases open_slice_pairs Try.underlying24 Try.underlying60 cellsClaim rfl rfl cellsInt cellsInt h with ⟨rfl, _⟩ | ⟨a, len, cap, m, n, V0, V1, D0, D1, P0, P1, rfl, _, hl, hm, hmm, hx, hi⟩
  · exact ⟨none, 0, [], rfl, Nat.le_refl _, Nat.zero_le _, rowC_nil _ _, by simp, by simp⟩
  · simp only [if_true] at hmm
    subst hmm
    rw [hx] at hf
    obtain ⟨hb, he⟩ := fit_slice Try.underlying24 hf
    rw [bytesClaim] at hb
    simp only [List.length_map, List.length_range, reachBytes] at hb
    have each : ∀ i, i < len → ∃ f : Int × Int, (in64 f.1 ∧ in64 f.2) ∧ V0 i = .int .i64 f.1 ∧ V1 i = .int .i64 f.2 := by
      intro i hil
      obtain ⟨_, _, h2, h3⟩ := hi i (by omega)
      obtain ⟨k0, e0, _, w0⟩ := DataW.trod_int Try.underlying3 h2
      obtain ⟨k1, e1, _, w1⟩ := DataW.trod_int Try.underlying3 h3
      simp only [List.cons.injEq, and_true] at e0 e1
      exact ⟨(k0, k1), ⟨bounds_i64 w0, bounds_i64 w1⟩, e0, e1⟩
    obtain ⟨F, hF⟩ := choose_at ((0, 0) : Int × Int) (n := len) (p := fun i f => (in64 f.1 ∧ in64 f.2) ∧ V0 i = .int .i64 f.1 ∧ V1 i = .int .i64 f.2) each
    have hlen : ((List.range len).map F).length = len := by simp
    refine ⟨some a, m, (List.range len).map F, by rw [hlen], by rw [hlen]; exact hl, hm, ⟨by rw [hlen]; omega, fun h0 => ?_⟩, ?_, by rw [hlen]; omega⟩
    · rw [hlen] at h0
      obtain ⟨b, off, spot⟩ := a
      have hspot : spot = none := by simpa [Addr.add] using World.cell?_spot (hi 0 (by omega)).1
      subst hspot
      refine ⟨b, off, rfl, fun i hil => ?_⟩
      rw [hlen] at hil
      obtain ⟨c0, c1, _, _⟩ := hi i (by omega)
      rw [add_plain] at c0 c1
      obtain ⟨_, v0, v1⟩ := hF i hil
      simp only [List.getElem_map, List.getElem_range]
      rw [v0] at c0
      rw [v1] at c1
      exact ⟨c0, c1⟩
    · intro y hy
      obtain ⟨i, hi2, rfl⟩ := List.mem_map.1 hy
      exact (hF i (by simpa using hi2)).1
set_option maxRecDepth 100000 in
theorem open_segment13 {fuel : Nat} {cs : List Value} {x : DataW H × List MemPlace} (h : DataW.trod enc Try.prog w base (fun _ => true) held fuel 28 cs = some x) (hf : Fit 28 x.1) :
    ∃ (s : Sg) (a : Option Addr) (c : Nat) (a2 : Option Addr) (c2 : Nat), cs = [.int .i64 s.knd, .int .i64 s.src, .int .u32 (s.ses : Nat), .int .u32 (s.ser : Nat), .int .u32 (s.cks : Nat), .int .i64 s.off, .int .i64 s.tot, .int .i64 s.low, .int .i64 s.upp, .int .i64 s.rea, .bool s.chk, .slice a s.dat.length c, .slice a2 s.cls.length c2] ∧ Came w s a c a2 c2 := by
  obtain ⟨xs, n, _, hx, hcl, hxl, hfs⟩ := DataW.trod_struct Try.underlying28 h
  rw [cellsSegment] at hcl
  match cs, hcl, xs, hxl with
  | [v0, v1, v2, v3, v4, v5, v6, v7, v8, v9, v10, v11, v12], _, [y0, y1, y2, y3, y4, y5, y6, y7, y8, y9, y10, y11, y12], _ =>
    have h0 := hfs 0 _ rfl
    have h1 := hfs 1 _ rfl
    have h2 := hfs 2 _ rfl
    have h3 := hfs 3 _ rfl
    have h4 := hfs 4 _ rfl
    have h5 := hfs 5 _ rfl
    have h6 := hfs 6 _ rfl
    have h7 := hfs 7 _ rfl
    have h8 := hfs 8 _ rfl
    have h9 := hfs 9 _ rfl
    have h10 := hfs 10 _ rfl
    have h11 := hfs 11 _ rfl
    have h12 := hfs 12 _ rfl
    change DataW.trod enc Try.prog w base (fun _ => true) held n 3 ([v0, v1, v2, v3, v4, v5, v6, v7, v8, v9, v10, v11, v12].take (Try.prog.cellsOf 3)) = some y0 at h0
    rw [cellsInt] at h0
    change DataW.trod enc Try.prog w base (fun _ => true) held n 3 ([v1, v2, v3, v4, v5, v6, v7, v8, v9, v10, v11, v12].take (Try.prog.cellsOf 3)) = some y1 at h1
    rw [cellsInt] at h1
    change DataW.trod enc Try.prog w base (fun _ => true) held n 22 ([v2, v3, v4, v5, v6, v7, v8, v9, v10, v11, v12].take (Try.prog.cellsOf 22)) = some y2 at h2
    rw [cellsU32] at h2
    change DataW.trod enc Try.prog w base (fun _ => true) held n 22 ([v3, v4, v5, v6, v7, v8, v9, v10, v11, v12].take (Try.prog.cellsOf 22)) = some y3 at h3
    rw [cellsU32] at h3
    change DataW.trod enc Try.prog w base (fun _ => true) held n 22 ([v4, v5, v6, v7, v8, v9, v10, v11, v12].take (Try.prog.cellsOf 22)) = some y4 at h4
    rw [cellsU32] at h4
    change DataW.trod enc Try.prog w base (fun _ => true) held n 3 ([v5, v6, v7, v8, v9, v10, v11, v12].take (Try.prog.cellsOf 3)) = some y5 at h5
    rw [cellsInt] at h5
    change DataW.trod enc Try.prog w base (fun _ => true) held n 3 ([v6, v7, v8, v9, v10, v11, v12].take (Try.prog.cellsOf 3)) = some y6 at h6
    rw [cellsInt] at h6
    change DataW.trod enc Try.prog w base (fun _ => true) held n 3 ([v7, v8, v9, v10, v11, v12].take (Try.prog.cellsOf 3)) = some y7 at h7
    rw [cellsInt] at h7
    change DataW.trod enc Try.prog w base (fun _ => true) held n 3 ([v8, v9, v10, v11, v12].take (Try.prog.cellsOf 3)) = some y8 at h8
    rw [cellsInt] at h8
    change DataW.trod enc Try.prog w base (fun _ => true) held n 3 ([v9, v10, v11, v12].take (Try.prog.cellsOf 3)) = some y9 at h9
    rw [cellsInt] at h9
    change DataW.trod enc Try.prog w base (fun _ => true) held n 4 ([v10, v11, v12].take (Try.prog.cellsOf 4)) = some y10 at h10
    rw [cellsBool] at h10
    change DataW.trod enc Try.prog w base (fun _ => true) held n 23 ([v11, v12].take (Try.prog.cellsOf 23)) = some y11 at h11
    rw [cellsBytes] at h11
    change DataW.trod enc Try.prog w base (fun _ => true) held n 24 ([v12].take (Try.prog.cellsOf 24)) = some y12 at h12
    rw [cellsClaims] at h12
    simp only [List.take_succ_cons, List.take_zero] at h0 h1 h2 h3 h4 h5 h6 h7 h8 h9 h10 h11 h12
    rw [hx] at hf
    simp only [List.map_cons, List.map_nil] at hf
    obtain ⟨k0, e0, _, w0⟩ := DataW.trod_int Try.underlying3 h0
    obtain ⟨k1, e1, _, w1⟩ := DataW.trod_int Try.underlying3 h1
    obtain ⟨k2, e2, _, w2⟩ := DataW.trod_int Try.underlying22 h2
    obtain ⟨k3, e3, _, w3⟩ := DataW.trod_int Try.underlying22 h3
    obtain ⟨k4, e4, _, w4⟩ := DataW.trod_int Try.underlying22 h4
    obtain ⟨k5, e5, _, w5⟩ := DataW.trod_int Try.underlying3 h5
    obtain ⟨k6, e6, _, w6⟩ := DataW.trod_int Try.underlying3 h6
    obtain ⟨k7, e7, _, w7⟩ := DataW.trod_int Try.underlying3 h7
    obtain ⟨k8, e8, _, w8⟩ := DataW.trod_int Try.underlying3 h8
    obtain ⟨k9, e9, _, w9⟩ := DataW.trod_int Try.underlying3 h9
    obtain ⟨k10, e10, _⟩ := DataW.trod_bool Try.underlying4 h10
    obtain ⟨a, c, l, e11, g1, g2, g3, g4⟩ := open_bytes h11 (fit_agg Try.underlying28 hf (j := 11) rfl rfl)
    obtain ⟨a2, c2, L, e12, q1, q2, q3, q4, q5⟩ := open_claims h12 (fit_agg Try.underlying28 hf (j := 12) rfl rfl)
    simp only [List.cons.injEq, and_true] at e0 e1 e2 e3 e4 e5 e6 e7 e8 e9 e10 e11 e12
    have b0 := bounds_i64 w0
    have b1 := bounds_i64 w1
    have b2 := bounds_u32 w2
    have b3 := bounds_u32 w3
    have b4 := bounds_u32 w4
    have b5 := bounds_i64 w5
    have b6 := bounds_i64 w6
    have b7 := bounds_i64 w7
    have b8 := bounds_i64 w8
    have b9 := bounds_i64 w9
    refine ⟨⟨k0, k1, k2.toNat, k3.toNat, k4.toNat, k5, k6, k7, k8, k9, k10, l, L⟩, a, c, a2, c2, ?_, ⟨b0, b1, by show k2.toNat < _; omega, by show k3.toNat < _; omega, by show k4.toNat < _; omega, b5, b6, b7, b8, b9, g3, q5, q4⟩, g4, q3, g1, g2, q1, q2⟩
    rw [e0, e1, e2, e3, e4, e5, e6, e7, e8, e9, e10, e11, e12, Int.toNat_of_nonneg b2.1, Int.toNat_of_nonneg b3.1, Int.toNat_of_nonneg b4.1]
set_option maxRecDepth 100000 in
theorem open_segment {r : Reach} {b0 : Nat} {v : Value} {d : DataW H} {p : List MemPlace} (hv : Value.okWide Try.prog w r b0 28 v) (h : DataW.Trod enc Try.prog w base (fun _ => true) held 28 v d p) (hf : Fit 28 d) :
    ∃ s a c a2 c2, v = sv s a c a2 c2 ∧ Came w s a c a2 c2 := by
  obtain ⟨cs, rfl, hsz⟩ := okWide_struct Try.underlying28 hv
  obtain ⟨fuel, hfu⟩ := h
  obtain ⟨s, a, c, a2, c2, hcs, hb⟩ := open_segment13 hfu hf
  refine ⟨s, a, c, a2, c2, ?_, hb⟩
  simp only [Value.cells] at hcs
  rw [show cs = cs.toList.toArray from by simp, hcs]
end
end Go.Proofs.Ytlhgjhbbiohcnaa
/- What came in: a session that takes in; a list of segments. -/
namespace Go.Proofs.Ytlhgjhbbiohcnaa
open Go.RowKit Go.Deep Go.ChangeShapes Go.WideShapes
set_option linter.unusedVariables false
theorem cellsTaking : Try.prog.cellsOf 26 = 9 := by kernel_rfl
theorem bytesSegment : Try.prog.bytesOf 28 = 128 := by kernel_rfl
section
variable {H : Type} {enc : TypeId × Value → H} {w : World} {base : Nat} {held : Bool}
set_option maxRecDepth 100000 in
theorem open_taking9 {fuel : Nat} {cs : List Value} {x : DataW H × List MemPlace} (h : DataW.trod enc Try.prog w base (fun _ => true) held fuel 26 cs = some x) (hf : Fit 26 x.1) :
    ∃ (s : Tk) (a : Option Addr) (c : Nat) (g : Option Addr) (d : Nat), cs = kcells s a c g d ∧ CameK w s a c g d := by
  obtain ⟨xs, n, _, hx, hcl, hxl, hfs⟩ := DataW.trod_struct Try.underlying26 h
  rw [cellsTaking] at hcl
  match cs, hcl, xs, hxl with
  | [v0, v1, v2, v3, v4, v5, v6, v7, v8], _, [y0, y1, y2, y3, y4, y5, y6, y7, y8], _ =>
    have h0 := hfs 0 _ rfl
    have h1 := hfs 1 _ rfl
    have h2 := hfs 2 _ rfl
    have h3 := hfs 3 _ rfl
    have h4 := hfs 4 _ rfl
    have h5 := hfs 5 _ rfl
    have h6 := hfs 6 _ rfl
    have h7 := hfs 7 _ rfl
    have h8 := hfs 8 _ rfl
    change DataW.trod enc Try.prog w base (fun _ => true) held n 3 ([v0, v1, v2, v3, v4, v5, v6, v7, v8].take (Try.prog.cellsOf 3)) = some y0 at h0
    rw [cellsInt] at h0
    change DataW.trod enc Try.prog w base (fun _ => true) held n 22 ([v1, v2, v3, v4, v5, v6, v7, v8].take (Try.prog.cellsOf 22)) = some y1 at h1
    rw [cellsU32] at h1
    change DataW.trod enc Try.prog w base (fun _ => true) held n 3 ([v2, v3, v4, v5, v6, v7, v8].take (Try.prog.cellsOf 3)) = some y2 at h2
    rw [cellsInt] at h2
    change DataW.trod enc Try.prog w base (fun _ => true) held n 23 ([v3, v4, v5, v6, v7, v8].take (Try.prog.cellsOf 23)) = some y3 at h3
    rw [cellsBytes] at h3
    change DataW.trod enc Try.prog w base (fun _ => true) held n 24 ([v4, v5, v6, v7, v8].take (Try.prog.cellsOf 24)) = some y4 at h4
    rw [cellsClaims] at h4
    change DataW.trod enc Try.prog w base (fun _ => true) held n 22 ([v5, v6, v7, v8].take (Try.prog.cellsOf 22)) = some y5 at h5
    rw [cellsU32] at h5
    change DataW.trod enc Try.prog w base (fun _ => true) held n 3 ([v6, v7, v8].take (Try.prog.cellsOf 3)) = some y6 at h6
    rw [cellsInt] at h6
    change DataW.trod enc Try.prog w base (fun _ => true) held n 3 ([v7, v8].take (Try.prog.cellsOf 3)) = some y7 at h7
    rw [cellsInt] at h7
    change DataW.trod enc Try.prog w base (fun _ => true) held n 3 ([v8].take (Try.prog.cellsOf 3)) = some y8 at h8
    rw [cellsInt] at h8
    simp only [List.take_succ_cons, List.take_zero] at h0 h1 h2 h3 h4 h5 h6 h7 h8
    rw [hx] at hf
    simp only [List.map_cons, List.map_nil] at hf
    obtain ⟨k0, e0, _, w0⟩ := DataW.trod_int Try.underlying3 h0
    obtain ⟨k1, e1, _, w1⟩ := DataW.trod_int Try.underlying22 h1
    obtain ⟨k2, e2, _, w2⟩ := DataW.trod_int Try.underlying3 h2
    obtain ⟨k5, e5, _, w5⟩ := DataW.trod_int Try.underlying22 h5
    obtain ⟨k6, e6, _, w6⟩ := DataW.trod_int Try.underlying3 h6
    obtain ⟨k7, e7, _, w7⟩ := DataW.trod_int Try.underlying3 h7
    obtain ⟨k8, e8, _, w8⟩ := DataW.trod_int Try.underlying3 h8
    obtain ⟨a, c, l, e3, g1, g2, g3, g4⟩ := open_bytes h3 (fit_agg Try.underlying26 hf (j := 3) rfl rfl)
    obtain ⟨a2, c2, L, e4, q1, q2, q3, q4, q5⟩ := open_claims h4 (fit_agg Try.underlying26 hf (j := 4) rfl rfl)
    simp only [List.cons.injEq, and_true] at e0 e1 e2 e3 e4 e5 e6 e7 e8
    have b0 := bounds_i64 w0
    have b1 := bounds_u32 w1
    have b2 := bounds_i64 w2
    have b5 := bounds_u32 w5
    have b6 := bounds_i64 w6
    have b7 := bounds_i64 w7
    have b8 := bounds_i64 w8
    refine ⟨⟨k0, k1.toNat, k2, l, L, k5.toNat, k6, k7, k8⟩, a, c, a2, c2, ?_, ⟨g4, q3, ⟨g1, g2⟩, ⟨q1, q2⟩, g3, q5, q4, b0, by show k1.toNat < _; omega, b2, by show k5.toNat < _; omega, b6, b7, b8⟩⟩
    rw [e0, e1, e2, e3, e4, e5, e6, e7, e8]
    simp only [kcells]
    rw [Int.toNat_of_nonneg b1.1, Int.toNat_of_nonneg b5.1]
set_option maxRecDepth 100000 in
theorem open_taking {r : Reach} {b0 : Nat} {v : Value} {d : DataW H} {p : List MemPlace} (hv : Value.okWide Try.prog w r b0 26 v) (h : DataW.Trod enc Try.prog w base (fun _ => true) held 26 v d p) (hf : Fit 26 d) :
    ∃ s a c g k, v = kv s a c g k ∧ CameK w s a c g k := by
  obtain ⟨cs, rfl, hsz⟩ := okWide_struct Try.underlying26 hv
  obtain ⟨fuel, hfu⟩ := h
  obtain ⟨s, a, c, a2, c2, hcs, hb⟩ := open_taking9 hfu hf
  refine ⟨s, a, c, a2, c2, ?_, hb⟩
  simp only [Value.cells] at hcs
  rw [show cs = cs.toList.toArray from by simp, hcs]
/-- a segment, and where its rows lie. -/
structure SX where
  s : Sg
  a : Option Addr
  c : Nat
  g : Option Addr
  d : Nat
def SX.cells (x : SX) : List Value := [.int .i64 x.s.knd, .int .i64 x.s.src, .int .u32 (x.s.ses : Nat), .int .u32 (x.s.ser : Nat), .int .u32 (x.s.cks : Nat), .int .i64 x.s.off, .int .i64 x.s.tot, .int .i64 x.s.low, .int .i64 x.s.upp, .int .i64 x.s.rea, .bool x.s.chk, .slice x.a x.s.dat.length x.c, .slice x.g x.s.cls.length x.d]
theorem SX.len (x : SX) : x.cells.length = 13 := rfl
/-- segments that came in. -/
structure SxAt (w : World) (a : Option Addr) (l : List SX) : Prop where
  came : ∀ x ∈ l, Came w x.s x.a x.c x.g x.d
  here : 0 < l.length → ∃ b o, a = some ⟨b, o, none⟩ ∧ ∀ i (hi : i < l.length), ∀ j u, (l[i]).cells[j]? = some u → w.cell? ⟨b, o + (i * 13 + j), none⟩ = some u
theorem SxAt.later {w w' : World} {a : Option Addr} {l : List SX} (h : SxAt w a l) (hb : Below w.heap.size w w') : SxAt w' a l := by
  refine ⟨fun x hx => (h.came x hx).later hb, fun h0 => ?_⟩
  obtain ⟨b, o, e, hc⟩ := h.here h0
  exact ⟨b, o, e, fun i hi j u hu => cell_later hb (hc i hi j u hu)⟩
theorem open_segments {fuel : Nat} {cs : List Value} {x : DataW H × List MemPlace} (h : DataW.trod enc Try.prog w base (fun _ => true) held fuel 31 cs = some x) (hf : Fit 31 x.1) :
    ∃ a c l, cs = [.slice a (l : List SX).length c] ∧ l.length ≤ c ∧ c ≤ maxLen ∧ l.length ≤ 140737488351232 ∧ SxAt w a l := by
  rcases open_slice Try.underlying31 h with ⟨rfl, _⟩ | ⟨a, len, cap, m, n, D, Pl, rfl, _, hl, hm, hmm, hx, hi⟩
  · exact ⟨none, 0, [], rfl, Nat.le_refl _, Nat.zero_le _, Nat.zero_le _, by simp, fun h => absurd h (by simp)⟩
  · simp only [if_true] at hmm
    subst hmm
    rw [hx] at hf
    obtain ⟨hb, he⟩ := fit_slice Try.underlying31 hf
    rw [bytesSegment] at hb
    simp only [List.length_map, List.length_range, reachBytes] at hb
    rw [cellsSegment] at hi
    have each : ∀ i, i < len → ∃ o : SX, Came w o.s o.a o.c o.g o.d ∧ ∀ j u, o.cells[j]? = some u → w.cell? (a.add (i * 13 + j)) = some u := by
      intro i hil
      obtain ⟨cs', h1, h2⟩ := hi i (by omega)
      have hfit := he (D i) (List.mem_map.2 ⟨i, by simpa using hil, rfl⟩)
      obtain ⟨s, sa, sc, sg, sd, rfl, g⟩ := open_segment13 h2 hfit
      obtain ⟨_, _, hcell⟩ := World.cells?_some h1
      refine ⟨⟨s, sa, sc, sg, sd⟩, g, fun j u hu => ?_⟩
      have hj : j < 13 := (List.getElem?_eq_some_iff.1 hu).1
      have := hcell j (by omega)
      rw [add_add] at this
      rw [this]
      exact hu
    obtain ⟨F, hF⟩ := choose_at (⟨⟨0, 0, 0, 0, 0, 0, 0, 0, 0, 0, false, [], []⟩, none, 0, none, 0⟩ : SX) each
    have hlen : ((List.range len).map F).length = len := by simp
    refine ⟨some a, m, (List.range len).map F, by rw [hlen], by rw [hlen]; exact hl, hm, by rw [hlen]; omega, ?_, fun h0 => ?_⟩
    · intro y hy
      obtain ⟨i, hi2, rfl⟩ := List.mem_map.1 hy
      exact (hF i (by simpa using hi2)).1
    · rw [hlen] at h0
      obtain ⟨b, off, spot⟩ := a
      have hspot : spot = none := by
        have c0 := (hF 0 h0).2 0 _ rfl
        simpa [Addr.add] using World.cell?_spot c0
      subst hspot
      refine ⟨b, off, rfl, fun i hi j u hu => ?_⟩
      rw [hlen] at hi
      simp only [List.getElem_map, List.getElem_range] at hu
      have := (hF i hi).2 j u hu
      rw [add_plain] at this
      exact this
theorem open_pair {r : Reach} {b0 : Nat} {v : Value} {d : DataW H} {p : List MemPlace} (hv : Value.okWide Try.prog w r b0 43 v) (h : DataW.Trod enc Try.prog w base (fun _ => true) held 43 v d p) :
    ∃ x y : Int, v = .agg #[.int .i64 x, .int .i64 y] ∧ in64 x ∧ in64 y := by
  have hcells : Try.prog.cellsOf 43 = 2 := by kernel_rfl
  have hv' := hv
  simp only [Value.okWide, Try.underlying43] at hv'
  obtain ⟨cs, rfl, hsz, _⟩ := hv'
  obtain ⟨fuel, hfu⟩ := h
  obtain ⟨xs, m, _, _, _, hxl, hi⟩ := DataW.trod_array Try.underlying43 hfu
  simp only [Value.cells] at hi
  rw [hcells] at hsz
  obtain ⟨c0, c1, hcs⟩ : ∃ c0 c1, cs.toList = [c0, c1] := by
    match hc : cs.toList, (show cs.toList.length = 2 by simpa using hsz) with
    | [c0, c1], _ => exact ⟨c0, c1, rfl⟩
  rw [hcs, cellsInt] at hi
  match xs, hxl with
  | [y0, y1], _ =>
    have h0 := hi 0 (by decide)
    have h1 := hi 1 (by decide)
    change DataW.trod enc Try.prog w base (fun _ => true) held m 3 [c0] = some y0 at h0
    change DataW.trod enc Try.prog w base (fun _ => true) held m 3 [c1] = some y1 at h1
    obtain ⟨k0, e0, _, w0⟩ := DataW.trod_int Try.underlying3 h0
    obtain ⟨k1, e1, _, w1⟩ := DataW.trod_int Try.underlying3 h1
    simp only [List.cons.injEq, and_true] at e0 e1
    refine ⟨k0, k1, ?_, bounds_i64 w0, bounds_i64 w1⟩
    rw [show cs = cs.toList.toArray from by simp, hcs, e0, e1]
end
end Go.Proofs.Ytlhgjhbbiohcnaa
