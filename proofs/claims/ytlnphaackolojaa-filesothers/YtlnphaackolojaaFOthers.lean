/- The law FilesOthers: true. -/
import Derived.Test.YtlnphaackolojaaFSame
import Derived.Test.YtlnphaackolojaaFMore
namespace Go.Proofs.Ytlnphaackolojaa
open Go.RowKit

theorem cost_small {L : List Fil} (h1 : ∀ x ∈ L, x.name.size ≤ 140737488351232) (h2 : ∀ x ∈ L, x.bytes.length ≤ 140737488351232) : costS L ≤ L.length * 281474976702464 := by
  induction L with
  | nil => simp [costS]
  | cons x r ih =>
    have e1 := h1 x List.mem_cons_self
    have e2 := h2 x List.mem_cons_self
    have := ih (fun y hy => h1 y (List.mem_cons_of_mem _ hy)) (fun y hy => h2 y (List.mem_cons_of_mem _ hy))
    simp only [costS, List.map_cons, List.sum_cons, List.length_cons] at this ⊢
    omega

theorem ops_one {w : World} {q : Nat} {o : OpS} {a : Option Addr} {c : Nat} (h : w.heap[q]? = some (opc o a c)) (hf : OpFits o) (hl : o.bytes.length ≤ c) (hc : c ≤ maxLen) (hr : Row w a o.bytes) : OpsAt w (some ⟨q, 0, none⟩) [o] := by
  refine ⟨by simpa using hf, by simp, fun _ => ⟨q, 0, rfl, fun i hi => ?_⟩⟩
  obtain rfl : i = 0 := by simp at hi; omega
  have h' : w.heap[q]? = some (.cells #[.int .i64 o.kind, .string o.name, .string o.new, .int .i64 o.at_, .slice a o.bytes.length c] 54 (0, 0)) := h
  exact ⟨by rw [cell_of h']; rfl, by rw [cell_of h']; rfl, by rw [cell_of h']; rfl, by rw [cell_of h']; rfl, a, c, by rw [cell_of h']; rfl, hl, hc, hr⟩

theorem old_block {a b : World} {k : Nat} {o : Obj} (h : Below a.heap.size a b) (hk : a.heap[k]? = some o) : b.heap[k]? = some o := by
  rw [h.block k (Array.getElem?_eq_some_iff.1 hk).1]; exact hk

theorem foldE_err : ∀ (l : List OpS) (L : List Fil) (r : Int), foldE L l = .error r → (r != 0) = true
  | [], L, r, h => by simp [foldE] at h
  | o :: t, L, r, h => by
    rw [foldE] at h
    split at h
    · rename_i hd
      cases h
      exact doE_err hd
    · exact foldE_err t _ r h
theorem applyE_err {L : List Fil} {l : List OpS} {r : Int} (h : applyE L l = .error r) : (r != 0) = true := by
  unfold applyE at h
  split at h
  · cases h; rfl
  · split at h
    · cases h; rfl
    · exact foldE_err l L r h
theorem applyE_right {L L' : List Fil} {l : List OpS} (h : applyE L l = .ok L') : rightB L = true := by
  unfold applyE at h
  split at h
  · cases h
  · simpa using ‹¬ rightB L = false›

set_option maxHeartbeats 8000000 in
set_option maxRecDepth 100000 in
theorem others_walk (w : World) (a ab : Option Addr) (c cb : Nat) (L : List Fil) (o : OpS) (hL : ListAt w a L) (hs : ∀ x ∈ L, x.bytes.length ≤ 140737488351232) (hf : OpFits o) (hl : o.bytes.length ≤ cb) (hcb : cb ≤ maxLen) (hr : Row w ab o.bytes) :
    Calls Try.prog 8 #[.agg #[.slice a L.length c], opv o ab cb] w fun e w' => e = .returned (.bool true) ∧ Hid (Below w.heap.size w w') := by
  have HL : Hid (ListAt w a L) := hL
  have HS : Hid (∀ x ∈ L, x.bytes.length ≤ 140737488351232) := hs
  have HF : Hid (OpFits o) := hf
  have HR : Hid (Row w ab o.bytes) := hr
  have HCB : Hid (o.bytes.length ≤ cb ∧ cb ≤ maxLen) := ⟨hl, hcb⟩
  have HB0 : Hid (∀ A B : Obj, Below w.heap.size w ((w.alloc A).alloc B)) := fun A B => ((Below.refl _ w).alloc (Nat.le_refl _) A).alloc (by simp) B
  clear hL hs hf hr hl hcb
  obtain ⟨ok, on, om, ot, ob⟩ := o
  simp only [opv] at *
  go_enter Try.func8, Try.ntmps8
  go_wp2_with (first | (go_at_call 9; refine (wakes_any _).mono ?_; rintro e w1 ⟨rfl, hq1⟩; obtain ⟨h1, h2, h3, hz⟩ := two_new hq1.out; have d1 := cell_of h1 0; simp only [List.getElem?_toArray, List.getElem?_cons_zero] at d1; clear hq1))
  refine (large_any _ a c L (HL.out.later h3)).mono ?_
  rintro e w2 ⟨bl, rfl, hq2⟩
  have hb2 : Below w.heap.size w w2 := below_of h3 hq2.out.2
  have k1 := old_block hq2.out.2 h1
  have k2 := old_block hq2.out.2 h2
  have hz2 : w.heap.size + 1 < w2.heap.size := Nat.lt_of_lt_of_le hz hq2.out.2.size
  clear h1 h2 h3 d1 hz
  cases bl with
  | true =>
    clear k1 k2
    go_wp2
    go_ret
    exact ⟨rfl, hb2⟩
  | false =>
    have h500 : L.length ≤ 500 := hq2.out.1 rfl
    have HCOST : Hid (costS L ≤ 4611686018427387904) := by
      have := cost_small HL.out.1 HS.out
      show _ ≤ _
      omega
    have HB2 : Hid (Below w.heap.size w w2) := hb2
    have K1 : Hid (w2.heap[w.heap.size]? = some (.cells #[.slice a L.length c] 24 (0, 0))) := k1
    have K2 : Hid (w2.heap[w.heap.size + 1]? = some (.cells #[.int .i64 ok, .string on, .string om, .int .i64 ot, .slice ab ob.length cb] 54 (0, 0))) := k2
    have d0 := cell_of k1 0
    have e0 := cell_of k2 0
    have e1 := cell_of k2 1
    have e2 := cell_of k2 2
    have e3 := cell_of k2 3
    have e4 := cell_of k2 4
    simp only [List.getElem?_toArray, List.getElem?_cons_zero, List.getElem?_cons_succ] at d0 e0 e1 e2 e3 e4
    have HAT : Hid (∀ A, OpsAt (w2.alloc A) (some ⟨w2.heap.size, 0, none⟩) [⟨ok, on, om, ot, ob⟩] → True) := fun _ _ => trivial
    have HOPS : Hid (OpsAt (w2.alloc (opc ⟨ok, on, om, ot, ob⟩ ab cb)) (some ⟨w2.heap.size, 0, none⟩) [⟨ok, on, om, ot, ob⟩]) := ops_one (heap_alloc_new w2 _) HF.out HCB.out.1 HCB.out.2 (HR.out.later (hb2.alloc hb2.size _))
    have HLA : Hid (ListAt (w2.alloc (opc ⟨ok, on, om, ot, ob⟩ ab cb)) a L) := HL.out.later (hb2.alloc hb2.size _)
    clear k1 k2 hb2 hq2 HAT
    cases hap : applyE L [⟨ok, on, om, ot, ob⟩] with
    | error r =>
      have HA := apply_fail (c := c) (c2 := 1) HLA.out HOPS.out HCOST.out hap
      simp only [opc] at HA
      have hr0 := applyE_err hap
      go_wp2_with (go_at_call 21; refine HA.mono ?_; rintro e w3 ⟨rfl, hq3⟩)
      go_ret
      have hb3 : Below w.heap.size w w3 := (HB2.out.alloc HB2.out.size _).trans (hq3.out.mono (by have := HB2.out.size; simp; omega))
      exact ⟨rfl, hb3.alloc hb3.size _⟩
    | ok L' =>
      have HRT : Hid (rightB L = true) := applyE_right hap
      have HDO : Hid (doE L ⟨ok, on, om, ot, ob⟩ = .ok L') := (apply_one HRT.out).symm.trans hap
      have HR' : Hid (rightB L' = true) := do_right HRT.out HDO.out
      have HC' : Hid (checkI L' = 0) := check_yes HR'.out
      have hc' := right_over HR'.out
      have HCO' : Hid (costS L' ≤ 4611686018427387904) := by show _ ≤ _; omega
      have HA := apply_done (c := c) (c2 := 1) HLA.out HOPS.out HCOST.out hap
      simp only [opc] at HA
      clear hap HOPS HLA
      go_wp2_with (first | (go_at_call 21; refine HA.mono ?_; rintro e w3 ⟨a', c3, rfl, hq3⟩; have hb3 : Below w2.heap.size w2 w3 := ((Below.refl _ w2).alloc (Nat.le_refl _) _).trans (hq3.out.2.2.2.2.mono (by simp))) | (go_at_call 12; refine (check_any _ a' c3 L' (hq3.out.1.later ((Below.refl _ w3).alloc (Nat.le_refl _) _)) HCO'.out).mono ?_; rw [HC'.out]; rintro e w4 ⟨rfl, hq4⟩; have hb4 : Below w2.heap.size w2 w4 := below_of hb3 (((Below.refl _ w3).alloc (Nat.le_refl _) _).trans (hq4.mono (by simp))); have k1 := old_block hb4 K1.out; have f0 := cell_of k1 0; simp only [List.getElem?_toArray, List.getElem?_cons_zero] at f0))
      have M1 : Hid (w4.heap[w.heap.size]? = some (.cells #[.slice a L.length c] 24 (0, 0))) := k1
      have M2 : Hid (w4.heap[w.heap.size + 1]? = some (.cells #[.int .i64 ok, .string on, .string om, .int .i64 ot, .slice ab ob.length cb] 54 (0, 0))) := old_block hb4 K2.out
      have M3 : Hid (w4.heap[w3.heap.size]? = some (.cells #[.slice a' L'.length c3] 24 (0, 0))) := old_block hq4 (heap_alloc_new w3 _)
      have HB4 : Hid (Below w.heap.size w w4) := below_of HB2.out hb4
      have HL4 : Hid (ListAt w4 a L) := HL.out.later HB4.out
      have HLP : Hid (ListAt w4 a' L') := (hq3.out.1.later ((Below.refl _ w3).alloc (Nat.le_refl _) _)).later hq4
      have HRO : Hid (Row w4 ab ob) := HR.out.later HB4.out
      have HGET : Hid (∀ (n : ByteArray) (W : World), Below w4.heap.size w4 W → Calls Try.prog 18 #[.agg #[.slice a' L'.length c3], .string n] W fun e w' => ∃ a9 c9, e = .returned (.tuple #[.slice a9 (getS L' n).1.length c9, .int .i64 (getS L' n).2]) ∧ Hid (Fresh W w' a9 c9 (getS L' n).1 ∧ Below W.heap.size W w')) := fun n W hW => get_any W a' c3 L' (HLP.out.later hW) HCO'.out n
      have hm := HL.out.2.1
      clear hq3 hq4 hb3 hb4 k1 f0 d0 e0 e1 e2 e3 e4 HA K1 K2
      go_loopw [40] (fun i wr => ∃ k : Nat, k ≤ L.length ∧ i = .int .i64 k ∧ Below w4.heap.size w4 wr) (fun i _ => L.length - (intOf i).toNat)
      case atStart => exact ⟨0, Nat.zero_le _, rfl, Below.refl _ _⟩
      case round =>
        obtain ⟨k, hk, rfl, hbw⟩ := hrel
        have HB : Hid (Below w4.heap.size w4 wr) := hbw
        have o1 := cell_of (old_block hbw M1.out) 0
        have p0 := cell_of (old_block hbw M2.out) 0
        have p1 := cell_of (old_block hbw M2.out) 1
        have p2 := cell_of (old_block hbw M2.out) 2
        have p3 := cell_of (old_block hbw M2.out) 3
        have p4 := cell_of (old_block hbw M2.out) 4
        have q0 := cell_of (old_block hbw M3.out) 0
        simp only [List.getElem?_toArray, List.getElem?_cons_zero, List.getElem?_cons_succ] at o1 p0 p1 p2 p3 p4 q0
        by_cases hkl : k < L.length
        · have p0' : ∀ A, (wr.alloc A).cell? ⟨w.heap.size + 1, 0, none⟩ = some (.int .i64 ok) := fun A => cell_later ((Below.refl _ wr).alloc (Nat.le_refl _) A) p0
          have p1' : ∀ A, (wr.alloc A).cell? ⟨w.heap.size + 1, 1, none⟩ = some (.string on) := fun A => cell_later ((Below.refl _ wr).alloc (Nat.le_refl _) A) p1
          have p2' : ∀ A, (wr.alloc A).cell? ⟨w.heap.size + 1, 2, none⟩ = some (.string om) := fun A => cell_later ((Below.refl _ wr).alloc (Nat.le_refl _) A) p2
          have q0' : ∀ A, (wr.alloc A).cell? ⟨w3.heap.size, 0, none⟩ = some (.slice a' L'.length c3) := fun A => cell_later ((Below.refl _ wr).alloc (Nat.le_refl _) A) q0
          clear p0 p1 p2 p3 p4 q0
          obtain ⟨b, o, rfl, hc⟩ := HL4.out.2.2 (by omega)
          obtain ⟨f1, a2, c2, f2, _, _, f5⟩ := (hc k hkl).later hbw
          have HX : Hid (L[k] ∈ L) := List.getElem_mem hkl
          have HRX : Hid (Row wr a2 L[k].bytes) := f5
          clear hc f5 hbw
          obtain ⟨x, hx⟩ : ∃ x, x = L[k] := ⟨_, rfl⟩
          rw [← hx] at f1 f2 HX HRX
          clear hx
          have hn1 := name_eq x.name on
          have hn2 := name_eq x.name om
          by_cases h1 : x.name = on
          · have t1 : (x.name.toList == on.toList) = true := by rw [hn1]; simp [h1]
            clear hn1 hn2 h1
            go_wp2
            go_roundw
            case rel => exact ⟨k + 1, by omega, by go_num, HB.out.alloc HB.out.size _⟩
            case measure => simp [intOf]; omega
          · have t1 : (x.name.toList == on.toList) = false := by rw [hn1]; simp [h1]
            by_cases h2 : ok = 3 ∧ x.name = om
            · obtain ⟨rfl, h2⟩ := h2
              have t2 : (x.name.toList == om.toList) = true := by rw [hn2]; simp [h2]
              clear hn1 hn2 h1 h2
              go_wp2
              go_roundw
              case rel => exact ⟨k + 1, by omega, by go_num, HB.out.alloc HB.out.size _⟩
              case measure => simp [intOf]; omega
            · have t2 : (ok == 3) = true → (x.name.toList == om.toList) = false := by
                intro h3
                rw [hn2]
                exact decide_eq_false (fun e => h2 ⟨by simpa using h3, e⟩)
              have HG : Hid (getS L' x.name = (x.bytes, 0)) := get_mem HR'.out (others_stay HRT.out HDO.out HX.out h1 (fun h3 e => h2 ⟨h3, e⟩))
              have HBA : Hid (Below w4.heap.size w4 (wr.alloc (.cells #[.string x.name, .slice a2 x.bytes.length c2] 41))) := HB.out.alloc HB.out.size _
              have HGC := HGET.out x.name _ HBA.out
              rw [HG.out] at HGC
              have HO1 : Hid (∀ W, Below (wr.alloc (.cells #[.string x.name, .slice a2 x.bytes.length c2] 41)).heap.size (wr.alloc (.cells #[.string x.name, .slice a2 x.bytes.length c2] 41)) W → W.cell? ⟨w.heap.size, 0, none⟩ = some (.slice (some ⟨b, o, none⟩) L.length c) ∧ W.cell? ⟨b, o + k * 2 + 1, none⟩ = some (.slice a2 x.bytes.length c2) ∧ Row W a2 x.bytes) := fun W hW => by
                have hb' := below_of ((Below.refl _ wr).alloc (Nat.le_refl _) _) hW
                exact ⟨cell_later hb' o1, cell_later hb' f2, HRX.out.later hb'⟩
              clear hn1 hn2 h1 h2 HX
              cases h3 : (ok == 3) with
              | true =>
                have t3 := t2 h3
                clear t2
                go_wp2_with (first | (go_at_call 18; refine HGC.mono ?_; rintro e w5 ⟨a9, c9, rfl, hq5⟩; obtain ⟨r1, r2, r3⟩ := HO1.out w5 hq5.out.2; have HR3 : Hid (Row w5 a2 x.bytes) := r3; clear r3) | (go_at_call 32; refine (equal_any a9 a2 c9 c2 x.bytes x.bytes _ hq5.out.1.row HR3.out).mono ?_; rw [decide_eq_true rfl]; rintro e w6 ⟨rfl, rfl⟩))
                go_roundw
                case rel => exact ⟨k + 1, by omega, by go_num, below_of HBA.out hq5.out.2⟩
                case measure => simp [intOf]; omega
              | false =>
                clear t2
                go_wp2_with (first | (go_at_call 18; refine HGC.mono ?_; rintro e w5 ⟨a9, c9, rfl, hq5⟩; obtain ⟨r1, r2, r3⟩ := HO1.out w5 hq5.out.2; have HR3 : Hid (Row w5 a2 x.bytes) := r3; clear r3) | (go_at_call 32; refine (equal_any a9 a2 c9 c2 x.bytes x.bytes _ hq5.out.1.row HR3.out).mono ?_; rw [decide_eq_true rfl]; rintro e w6 ⟨rfl, rfl⟩))
                go_roundw
                case rel => exact ⟨k + 1, by omega, by go_num, below_of HBA.out hq5.out.2⟩
                case measure => simp [intOf]; omega
        · have HGN := HGET.out on wr hbw
          have HBW : Hid (Below w.heap.size w wr) := below_of HB4.out hbw
          have HRW : Hid (Row wr ab ob) := HRO.out.later hbw
          have HLW : Hid (ListAt wr a L) := HL4.out.later hbw
          clear hbw
          by_cases k1 : ok = 1
          · subst k1
            have HG : Hid (getS L' on = (ob, 0)) := after_put HRT.out HDO.out rfl
            rw [HG.out] at HGN
            go_wp2_with (first | (go_at_call 18; refine HGN.mono ?_; rintro e w5 ⟨a9, c9, rfl, hq5⟩; have s0 := cell_later hq5.out.2 p0; have s4 := cell_later hq5.out.2 p4) | (go_at_call 32; refine (equal_any a9 ab c9 cb ob ob _ hq5.out.1.row (HRW.out.later hq5.out.2)).mono ?_; rw [decide_eq_true rfl]; rintro e w6 ⟨rfl, rfl⟩))
            go_ret
            exact ⟨rfl, below_of HBW.out hq5.out.2⟩
          · by_cases k2 : ok = 2
            · subst k2
              obtain ⟨t, old, hot, ht1, ht2, ht3, hgt⟩ := after_write HRT.out HDO.out rfl
              simp only at hot ht2 hgt
              subst hot
              have hov := overS_length old t ob ht1
              have HG : Hid (getS L' on = (overS old t ob, 0)) := hgt
              have HMID : Hid (((overS old t ob).drop t).take ob.length = ob) := overS_mid old ob t ht1
              rw [HG.out] at HGN
              have hlen : t + ob.length ≤ (overS old t ob).length := by omega
              have hlen2 : (overS old t ob).length ≤ 4096 := by omega
              clear hgt hov
              generalize overS old t ob = l9 at *
              go_wp2_with (go_at_call 18; refine HGN.mono ?_; rintro e w5 ⟨a9, c9, rfl, hq5⟩; have s0 := cell_later hq5.out.2 p0; have s3 := cell_later hq5.out.2 p3; have s4 := cell_later hq5.out.2 p4)
              have hle : (t : Int) + (ob.length : Int) ≤ (l9.length : Int) := by omega
              have hw : IntKind.i64.wrap ((t : Int) + (ob.length : Int)) = (t : Int) + (ob.length : Int) := by rw [IntKind.wrap_i64]; omega
              have hc9 : l9.length ≤ c9 := hq5.out.1.le
              have hb1 : (t : Int) + (ob.length : Int) ≤ (c9 : Int) := by omega
              have hb2 : (t : Int) ≤ (t : Int) + (ob.length : Int) := by omega
              have htn : ((t : Int) + (ob.length : Int)).toNat = t + ob.length := by omega
              have HSUB : Hid (∀ A, (0 < ob.length → ∃ g o, a9 = some ⟨g, o, none⟩ ∧ A = some ⟨g, o + t, none⟩) → Row w5 A ob) := fun A hA => by
                have hr := hq5.out.1.row
                refine ⟨HRW.out.1, HRW.out.2.1, fun h0 => ?_⟩
                obtain ⟨g, o, rfl, rfl⟩ := hA h0
                refine ⟨g, o + t, rfl, fun i hi => ?_⟩
                obtain ⟨g', o', h4, hc⟩ := hr.2.2 (by omega)
                cases h4
                rw [Nat.add_assoc, hc (t + i) (by omega)]
                have e : ob[i]? = l9[t + i]? := by
                  have e1 : (((l9.drop t).take ob.length))[i]? = ob[i]? := by rw [HMID.out]
                  rw [← e1, List.getElem?_take_of_lt hi, List.getElem?_drop]
                rw [List.getD_eq_getElem?_getD, List.getD_eq_getElem?_getD, e]
              have HRW5 : Hid (Row w5 ab ob) := HRW.out.later hq5.out.2
              by_cases hob : ob.length = 0
              · have HQE : Hid (∀ n A cc, Calls Try.prog 32 #[.slice A ob.length cc, .slice ab ob.length cb] (w5.drewN n) fun e w' => e = .returned (.bool true) ∧ w' = w5.drewN n) := fun n A cc => by
                  refine (equal_any A ab cc cb ob ob (w5.drewN n) ((HSUB.out A (fun h => absurd h (by omega))).later (below_drewN (Below.refl _ _) n)) (HRW5.out.later (below_drewN (Below.refl _ _) n))).mono ?_
                  rintro e w' ⟨rfl, rfl⟩
                  exact ⟨by rw [decide_eq_true rfl], rfl⟩
                clear hob
                go_quiet ((go_at_call 32; exact Calls.quiet_of_same (HQE.out _ _ _)))
                go_wp2
                all_goals
                  go_ret
                  exact ⟨rfl, below_drewN (below_of HBW.out hq5.out.2) _⟩
              · obtain ⟨g9, o9, rfl, _⟩ := hq5.out.1.row.2.2 (by omega)
                have hct : ¬ (c9 = t) := by omega
                have HQE : Hid (∀ n cc, Calls Try.prog 32 #[.slice (some ⟨g9, o9 + t, none⟩) ob.length cc, .slice ab ob.length cb] (w5.drewN n) fun e w' => e = .returned (.bool true) ∧ w' = w5.drewN n) := fun n cc => by
                  refine (equal_any (some ⟨g9, o9 + t, none⟩) ab cc cb ob ob (w5.drewN n) ((HSUB.out _ (fun _ => ⟨g9, o9, rfl, rfl⟩)).later (below_drewN (Below.refl _ _) n)) (HRW5.out.later (below_drewN (Below.refl _ _) n))).mono ?_
                  rintro e w' ⟨rfl, rfl⟩
                  exact ⟨by rw [decide_eq_true rfl], rfl⟩
                clear hob
                go_quiet ((go_at_call 32; exact Calls.quiet_of_same (HQE.out _ _)))
                go_wp2
                go_ret
                exact ⟨rfl, below_drewN (below_of HBW.out hq5.out.2) _⟩
            · by_cases k3 : ok = 3
              · subst k3
                obtain ⟨b9, hg1, hg2, hg3⟩ := after_name HRT.out HDO.out rfl
                simp only at hg1 hg2 hg3
                have HGF : Hid (∀ (W : World), Below wr.heap.size wr W → Calls Try.prog 18 #[.agg #[.slice a L.length c], .string on] W fun e w' => ∃ a9 c9, e = .returned (.tuple #[.slice a9 b9.length c9, .int .i64 0]) ∧ Hid (Fresh W w' a9 c9 b9 ∧ Below W.heap.size W w')) := fun W hW => by
                  have := get_any W a c L (HLW.out.later hW) HCOST.out on
                  rw [hg1] at this
                  exact this
                have HGM : Hid (∀ (W : World), Below wr.heap.size wr W → Calls Try.prog 18 #[.agg #[.slice a' L'.length c3], .string om] W fun e w' => ∃ a9 c9, e = .returned (.tuple #[.slice a9 b9.length c9, .int .i64 0]) ∧ Hid (Fresh W w' a9 c9 b9 ∧ Below W.heap.size W w')) := fun W hW => by
                  have := HGET.out om W (below_of HB.out hW)
                  rw [hg2] at this
                  exact this
                have hne := name_eq on om
                have HEQ : Hid (((getS L' on).2 == 0) = (on.toList == om.toList)) := by
                  show _ = _
                  rw [hne, Bool.eq_iff_iff, beq_iff_eq, decide_eq_true_iff]
                  exact hg3
                clear hg1 hg2 hg3 hne
                generalize getS L' on = g9 at HGN HEQ
                obtain ⟨l8, e8⟩ := g9
                simp only at HGN HEQ
                go_wp2_with fail
                refine HGN.mono ?_
                rintro e w5 ⟨a9, c9, rfl, hq5⟩
                have s0 := cell_later hq5.out.2 p0
                have s1 := cell_later hq5.out.2 p1
                have s2 := cell_later hq5.out.2 p2
                have s5 := cell_later hq5.out.2 q0
                have s6 := cell_later hq5.out.2 o1
                go_wp2_with fail
                refine (HGF.out w5 hq5.out.2).mono ?_
                rintro e w6 ⟨a8, c8, rfl, hq6⟩
                have t1 := cell_later hq6.out.2 s1
                have t2 := cell_later hq6.out.2 s2
                have t5 := cell_later hq6.out.2 s5
                go_wp2_with fail
                refine (HGM.out w6 (below_of hq5.out.2 hq6.out.2)).mono ?_
                rintro e w7 ⟨a7, c7, rfl, hq7⟩
                have v1 := cell_later hq7.out.2 t1
                have v2 := cell_later hq7.out.2 t2
                go_wp2_with (go_at_call 32; refine (equal_any a8 a7 c8 c7 b9 b9 _ (hq6.out.1.row.later hq7.out.2) hq7.out.1.row).mono ?_; rw [decide_eq_true rfl]; rintro e w8 ⟨rfl, rfl⟩)
                go_ret
                exact ⟨ret_bool (by rw [HEQ.out]; simp), below_of (below_of (below_of HBW.out hq5.out.2) hq6.out.2) hq7.out.2⟩
              · have HG : Hid (getS L' on = ([], 4)) := after_drop HRT.out HDO.out k1 k2 k3
                rw [HG.out] at HGN
                have g1 : (ok == 1) = false := beq_eq_false_iff_ne.2 k1
                have g2 : (ok == 2) = false := beq_eq_false_iff_ne.2 k2
                have g3 : (ok == 3) = false := beq_eq_false_iff_ne.2 k3
                clear k1 k2 k3
                go_wp2_with (first | (go_at_call 18; refine HGN.mono ?_; rintro e w5 ⟨a9, c9, rfl, hq5⟩; have s0 := cell_later hq5.out.2 p0))
                go_ret
                exact ⟨rfl, below_of HBW.out hq5.out.2⟩
end Go.Proofs.Ytlnphaackolojaa
