/- receiver.New of a data segment. -/
import Derived.Test.YthmolodkaboakaaVNew
namespace Go.Proofs.Ythmolodkaboakaa
open Go.RowKit
set_option linter.unusedVariables false
theorem made_u8 (n : Nat) : madeCells (Value.int .u8 0).cells (n * 1) = (cells (List.replicate n 0)).toArray := by
  apply Array.ext'
  unfold cells madeCells
  rw [List.map_replicate, List.eq_replicate_iff]
  refine ⟨by simp, ?_⟩
  intro x hx
  simp only [Array.toList_map, List.mem_map, Value.cells] at hx
  obtain ⟨i, _, rfl⟩ := hx
  simp [Nat.mod_one]
theorem make_n (T : Nat) (hT : T ≤ 1000) (W : World) : (Instr.makeSlice 23 (.int .i64 (T : Int)) (.int .i64 (T : Int))).run Try.prog W = .ok (.slice (some ⟨W.heap.size, 0, none⟩) T T) (W.alloc (.cells (cells (List.replicate T 0)).toArray 5)) := by
  obtain ⟨i0, hi, hz0, hz1, hz2⟩ := info_parts Try.info5
  have := run_make (P := Try.prog) W 23 5 i0 _ Try.underlying23 hi hz0 .i64 .i64 (T : Int) (T : Int) (by omega) (by omega) (by rw [hz2]; omega) (by omega)
  rw [hz1, Int.toNat_natCast, made_u8] at this
  exact this
theorem new_cells {w W : World} {x : Sg} {xa : Option Addr} {xc : Nat} {a2 : Option Addr} {c2 T : Nat} (hy : ∀ W : World, W.heap[w.heap.size]? = some (sc x xa xc a2 c2) → W.cell? ⟨w.heap.size, 6, none⟩ = some (.int .i64 (T : Int))) (h : W.heap[w.heap.size]? = some (sc x xa xc a2 c2)) : W.cell? ⟨w.heap.size, 1, none⟩ = some (.int .i64 x.src) ∧ W.cell? ⟨w.heap.size, 2, none⟩ = some (.int .u32 (x.ses : Nat)) ∧ W.cell? ⟨w.heap.size, 6, none⟩ = some (.int .i64 (T : Int)) := ⟨(scells h).2.1, (scells h).2.2.1, hy W h⟩
/-- a session that was just made. -/
structure NewAt (w1 wd : World) (sb gb : Nat) (x : Sg) (life : Int) (T : Nat) (Z : Array Value) : Prop where
  bel : Below w1.heap.size w1 wd
  box : wd.heap[sb]? = some (.cells #[.int .i64 x.src, .int .u32 (x.ses : Nat), .int .i64 (T : Int), .slice (some ⟨gb, 0, none⟩) T T, .slice none 0 0, .int .u32 0, .int .i64 1, .int .i64 life, .int .i64 0] 26 (0, 0))
  byt : wd.heap[gb]? = some (.cells Z 5 (0, 0))
  new : w1.heap.size ≤ gb
theorem new_at1 (w1 : World) (x : Sg) (life : Int) (T : Nat) (Z : Array Value) : NewAt w1 ((w1.alloc (.cells Z 5)).alloc (.cells #[.int .i64 x.src, .int .u32 (x.ses : Nat), .int .i64 (T : Int), .slice (some ⟨w1.heap.size, 0, none⟩) T T, .slice none 0 0, .int .u32 0, .int .i64 1, .int .i64 life, .int .i64 0] 26)).drew (w1.heap.size + 1) w1.heap.size x life T Z :=
  ⟨(((Below.refl _ w1).alloc (Nat.le_refl _) _).alloc (by simp) _).drew, second_new w1 _ _, old_block (((Below.refl _ (w1.alloc _)).alloc (Nat.le_refl _) _).drew) (heap_alloc_new w1 _), Nat.le_refl _⟩
theorem new_at2 (w1 : World) (x : Sg) (life : Int) (T : Nat) (Z : Array Value) : NewAt w1 ((w1.alloc (.cells #[.int .i64 x.src, .int .u32 (x.ses : Nat), .int .i64 (T : Int), .slice (some ⟨w1.heap.size + 1, 0, none⟩) T T, .slice none 0 0, .int .u32 0, .int .i64 1, .int .i64 life, .int .i64 0] 26)).alloc (.cells Z 5)).drew w1.heap.size (w1.heap.size + 1) x life T Z :=
  ⟨(((Below.refl _ w1).alloc (Nat.le_refl _) _).alloc (by simp) _).drew, old_block (((Below.refl _ (w1.alloc _)).alloc (Nat.le_refl _) _).drew) (heap_alloc_new w1 _), second_new w1 _ _, by omega⟩
theorem new_range {w1 wd : World} {sb gb : Nat} {x : Sg} {life : Int} {T : Nat} {Z : Array Value} (h : NewAt w1 wd sb gb x life T Z) (hT : x.tot = T) : wd.rangeAt sb 0 (kcells (freshK x life) (some ⟨gb, 0, none⟩) T none 0) := by
  refine k_range ?_
  rw [h.box]
  simp [freshK, hT]
theorem new_came {w w1 wd : World} {sb gb : Nat} {x : Sg} {life : Int} {T : Nat} {Z : Array Value} {xa : Option Addr} {xc : Nat} {a2 : Option Addr} {c2 : Nat} (h : NewAt w1 wd sb gb x life T Z) (hT : x.tot = T) (hZ : Z = (cells (List.replicate T 0)).toArray) (hT2 : T ≤ 512) (hx : Came w x xa xc a2 c2) (hl : 1 ≤ life ∧ life ≤ 65536) : CameK wd (freshK x life) (some ⟨gb, 0, none⟩) T none 0 := by
  have hb : Bs wd gb (List.replicate T 0) := ⟨by rw [h.byt, hZ], fun y hy => by rw [List.eq_of_mem_replicate hy]; omega, by simp [maxLen]; omega⟩
  have e : (freshK x life).byt = List.replicate T 0 := by simp [freshK, hT]
  have el : (freshK x life).byt.length = T := by rw [e]; simp
  refine ⟨by rw [e]; exact hb.row, ⟨by simp [freshK], fun h => absurd h (by simp [freshK])⟩, ⟨by omega, by simp [maxLen]; omega⟩, ⟨by simp [freshK], by simp⟩, by omega, by simp [freshK], by simp [freshK], hx.fit.src, hx.fit.ses, hx.fit.tot, by simp [freshK], ⟨by simp [freshK], by simp [freshK]⟩, ?_, ⟨by simp [freshK], by simp [freshK]⟩⟩
  unfold in64
  simp only [freshK]
  omega
theorem ans_res {w wc w3 : World} {x : Sg} {xa : Option Addr} {xc : Nat} {a2 : Option Addr} {c2 : Nat} {r : Tk × List Sg × Int} {a : Option Addr} {c : Nat} {g : Option Addr} {d : Nat} {v : Value} (h : EnN w wc x xa xc a2 c2) (hb : Below wc.heap.size wc w3) (hk : KN wc.heap.size w3 r.1 a c g d) (hs : Sent wc.heap.size w3 v r.2.1) : Ans w (w3.setCells (w.heap.size + 1) 0 (kcells r.1 a c g d)) (.returned (.tuple #[.agg (kcells r.1 a c g d).toArray, v, .int .i64 r.2.2])) r := by
  have ho := setC_off w3 (w.heap.size + 1) 0 (kcells r.1 a c g d)
  have hb3 := below_of h.bel hb
  have hlt := size_two h.res
  have h0 : w.heap.size ≤ wc.heap.size := h.bel.size
  exact ⟨a, c, g, d, v, rfl, hb3.trans (ho.below hb3.size (fun i e => by have : i = w.heap.size + 1 := e; omega)), (hk.off ho (fun k e => by have : k = w.heap.size + 1 := e; omega)).base h0, (hs.off ho (fun k e => by have : k = w.heap.size + 1 := e; omega)).base h0⟩
set_option maxRecDepth 20000 in
set_option maxHeartbeats 4000000 in
theorem vnew_ok (x : Sg) (xa : Option Addr) (xc : Nat) (a2 : Option Addr) (c2 : Nat) (now life : Int) (w : World) (hx : Came w x xa xc a2 c2) (h1 : okS x = true) (h2 : (x.knd != 1) = false) (h3 : inB life 1 65536 = true) :
    Calls Try.prog 18 #[sv x xa xc a2 c2, .int .i64 now, .int .i64 life] w fun e w' => Ans w w' e (takeK (freshK x life) x now) := by
  obtain ⟨ct, hct⟩ : ∃ ct, Hid (ct = sgcells x xa xc a2 c2) := ⟨_, rfl⟩
  have htz : (Try.prog.info? 28).map (·.size) = some ct.length := by rw [show ct.length = 13 by rw [hct.out]; rfl]; kernel_rfl
  have hs9 : (Try.prog.info? 26).map (·.size) = some 9 := by kernel_rfl
  have HCK : Hid (∀ W, Below w.heap.size w W → Calls Try.prog 30 #[.agg ct.toArray] W fun e w' => e = .returned (.int .i64 (chkS x)) ∧ Hid (Below W.heap.size W w')) := fun W hb => by rw [hct.out]; exact check_any x xa xc a2 c2 W (hx.later hb)
  have HEN : Hid (EnN w ((w.alloc (sc x xa xc a2 c2)).alloc (kc zeroK none 0 none 0)) x xa xc a2 c2) := EnN.start w x xa xc a2 c2
  have HR0 : Hid (((w.alloc (sc x xa xc a2 c2)).alloc (kc zeroK none 0 none 0)).rangeAt w.heap.size 0 ct) := by rw [hct.out]; exact sg_range HEN.out.one
  rw [chk_ok h1] at HCK
  have hlif := inB_of h3
  obtain ⟨T, hT⟩ : ∃ T : Nat, x.tot = T ∧ T ≤ 512 ∧ 1 ≤ T := by
    obtain ⟨_, _, hf, _⟩ := okS_parts h1
    have hk : x.knd = 1 := by simpa using h2
    rcases kinds hf with ⟨_, hd⟩ | ⟨h, _⟩ | ⟨h, _⟩ | ⟨h, _⟩ | h
    · have := (dataS_of hd).1
      exact ⟨x.tot.toNat, by omega, by omega, by omega⟩
    all_goals omega
  have HX : Hid (Came w x xa xc a2 c2) := hx
  have HMK : ∀ W : World, (Instr.makeSlice 23 (.int .i64 (T : Int)) (.int .i64 (T : Int))).run Try.prog W = .ok (.slice (some ⟨W.heap.size, 0, none⟩) T T) (W.alloc (.cells (cells (List.replicate T 0)).toArray 5)) := fun W => make_n T (by omega) W
  obtain ⟨Z, hZ⟩ : ∃ Z, Hid (Z = (cells (List.replicate T 0)).toArray) := ⟨_, rfl⟩
  rw [← hZ.out] at HMK
  clear hx h1
  obtain ⟨hT1, hT2, hT3⟩ := hT
  have HT1 : Hid (x.tot = T) := hT1
  have YT : Hid (∀ W : World, W.heap[w.heap.size]? = some (sc x xa xc a2 c2) → W.cell? ⟨w.heap.size, 6, none⟩ = some (.int .i64 (T : Int))) := fun W h => by rw [← hT1]; exact (scells h).2.2.2.2.2.2.1
  clear hT1
  go_enter Try.func18, Try.ntmps18
  go_wp2_with (first | (go_at_call 30; refine (HCK.out _ HEN.out.bel).mono ?_; rintro e w1 ⟨rfl, hb1⟩; have HE1 : Hid (EnN w w1 x xa xc a2 c2) := HEN.out.later hb1.out; have y0 := (scells HE1.out.one).1) | (go_at_call 39; refine (vwithin_any _ _ _ _).mono ?_; rintro e w2 ⟨rfl, rfl⟩) | (refine wpList_load_want (by rfl) 28 _ rfl w.heap.size 0 (by rfl) ct _ (by first | exact HR0.out) Try.underlying28 rfl htz ?_))
  have HB1 : Hid (Below w1.heap.size w1 w1) := Below.refl _ _
  have hS0 := new_cells YT.out HE1.out.one
  have hS1 := fun X => new_cells YT.out (HE1.out.later ((Below.refl _ w1).alloc (Nat.le_refl _) X)).one
  have hS2 := fun X Y => new_cells YT.out ((HE1.out.later ((Below.refl _ w1).alloc (Nat.le_refl _) X)).later ((Below.refl _ (w1.alloc X)).alloc (Nat.le_refl _) Y)).one
  go_cut [9] from 24 to 35 (fun u wd => ∃ sb gb, u = .pointer (some ⟨sb, 0, none⟩) ∧ Hid (NewAt w1 wd sb gb x life T Z))
  case first =>
    go_region_held3 (fun W => W.cell? ⟨w.heap.size, 1, none⟩ = some (.int .i64 x.src) ∧ W.cell? ⟨w.heap.size, 2, none⟩ = some (.int .u32 (x.ses : Nat)) ∧ W.cell? ⟨w.heap.size, 6, none⟩ = some (.int .i64 (T : Int))) (first | exact hS0 | exact hS1 _ | exact hS2 _ _) (fail)
    all_goals
      go_wp2
      go_meet
      case rel => first
        | exact ⟨w1.heap.size + 1, w1.heap.size, rfl, new_at1 w1 x life T Z⟩
        | exact ⟨w1.heap.size, w1.heap.size + 1, rfl, new_at2 w1 x life T Z⟩
  case rest =>
    obtain ⟨sb, gb, rfl, HNA⟩ := hcut
    have HE2 : Hid (EnN w wc x xa xc a2 c2) := HE1.out.later HNA.out.bel
    have HRX : Hid (wc.rangeAt w.heap.size 0 ct) := by rw [hct.out]; exact sg_range HE2.out.one
    obtain ⟨cs, hcs⟩ : ∃ cs, Hid (cs = kcells (freshK x life) (some ⟨gb, 0, none⟩) T none 0) := ⟨_, rfl⟩
    have hsz1 : (Try.prog.info? 26).map (·.size) = some cs.length := by rw [show cs.length = 9 by rw [hcs.out]; rfl]; exact hs9
    have HRS : Hid (wc.rangeAt sb 0 cs) := by rw [hcs.out]; exact new_range HNA.out HT1.out
    have HTK : Hid (∀ W, Below wc.heap.size wc W → Calls Try.prog 10 #[.agg cs.toArray, .agg ct.toArray, .int .i64 now] W fun e w' => Ans W w' e (takeK (freshK x life) x now)) := fun W hb => by
      rw [hcs.out, hct.out]
      exact vtake_any (freshK x life) _ _ _ _ x xa xc a2 c2 now W ((new_came HNA.out HT1.out hZ.out (by omega) HX.out hlif).later hb) (HX.out.later (below_of HE2.out.bel hb))
    clear hS0 hS1 hS2 HCK HR0 YT HMK
    go_wp2_with (first | (refine wpList_load_mid rfl 28 _ rfl w.heap.size 0 (by rfl) ct _ HRX.out Try.underlying28 rfl htz ?_) | (refine wpList_load_mid rfl 26 _ rfl sb 0 (by rfl) cs _ HRS.out Try.underlying26 rfl hsz1 ?_) | (go_at_call 10; refine (HTK.out _ (Below.refl _ _)).mono ?_; rintro e w3 ⟨a5, c5, g5, d5, v5, rfl, hq⟩; have HE3 : Hid (EnN w w3 x xa xc a2 c2) := HE2.out.later hq.1; have HZ := res_store HE3.out.res HE3.out.bel (by omega) (takeK (freshK x life) x now).1 a5 c5 g5 d5; have HQ : Hid _ := ans_res HE2.out hq.1 hq.2.1 hq.2.2; clear hq) | (refine wpList_store_mid rfl 26 _ _ rfl (w.heap.size + 1) 0 (kcells (takeK (freshK x life) x now).1 a5 c5 g5 d5).toArray (by rfl) (by rfl) HZ.1.out hs9 HZ.2.1.out ?_))
    exact bodyPost_ret (results_cell3 rfl _ _ (w.heap.size + 1) 0 (by rfl) (kcells (takeK (freshK x life) x now).1 a5 c5 g5 d5) _ HZ.2.2.1.out Try.underlying26 rfl hs9) rfl (by
      show Ans w _ (.returned (.tuple #[.agg (kcells (takeK (freshK x life) x now).1 a5 c5 g5 d5).toArray, v5, .int .i64 (takeK (freshK x life) x now).2.2])) _
      exact HQ.out)
theorem vnew_any (x : Sg) (xa : Option Addr) (xc : Nat) (a2 : Option Addr) (c2 : Nat) (now life : Int) (w : World) (hx : Came w x xa xc a2 c2) :
    Calls Try.prog 18 #[sv x xa xc a2 c2, .int .i64 now, .int .i64 life] w fun e w' => Ans w w' e (newK x now life) := by
  unfold newK
  cases h1 : okS x with
  | false => rw [if_neg (by simp)]; exact vnew_e1 x xa xc a2 c2 now life w hx h1
  | true =>
    cases h2 : (x.knd != 1) with
    | true => rw [if_neg (by simp at h2; simp [h2])]; exact vnew_e2 x xa xc a2 c2 now life w hx h1 h2
    | false =>
      have e2 : x.knd = 1 := by simpa using h2
      cases h3 : inB life 1 65536 with
      | false => rw [if_neg (by simp)]; exact vnew_e3 x xa xc a2 c2 now life w hx h1 h2 h3
      | true => rw [if_pos (by simp [e2])]; exact vnew_ok x xa xc a2 c2 now life w hx h1 h2 h3
end Go.Proofs.Ythmolodkaboakaa
