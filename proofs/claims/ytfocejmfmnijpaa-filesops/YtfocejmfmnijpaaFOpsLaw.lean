/- The law FilesOps: true. -/
import Derived.Test.YtfocejmfmnijpaaDDecWalk
import Derived.Test.YtfocejmfmnijpaaDPure
import Derived.Test.YtfocejmfmnijpaaERefOps
import Derived.Test.YtfocejmfmnijpaaFBytesNew
import Derived.Test.YtfocejmfmnijpaaFSmall
import Derived.Test.YtfocejmfmnijpaaFWakes
import Derived.Test.YtfocejmfmnijpaaFRefSame
import Derived.Deep.CutRange
namespace Go.Proofs.Ytfocejmfmnijpaa
open Go.RowKit

/-- what EncodeOps answers, in one form. -/
theorem enc_one {w : World} {l : List OpS} {e : Ending} {w' : World} (h : EncOps w l e w') : ∃ X a' c' r, e = .returned (.tuple #[.slice a' (X : List Nat).length c', .int .i64 r]) ∧ Hid (Below w.heap.size w w' ∧ Row w' a' X ∧ ((64 < l.length ∧ X = [] ∧ r = 3) ∨ (l.length ≤ 64 ∧ l.all sayB = false ∧ X = [] ∧ r = 151) ∨ (l.length ≤ 64 ∧ l.all sayB = true ∧ X = encOps l ∧ r = 0))) := by
  rcases h with ⟨h1, rfl, h3⟩ | ⟨h1, h2, rfl, h3⟩ | ⟨h1, h2, a', c', rfl, h3⟩
  · exact ⟨[], none, 0, 3, rfl, h3.out, ⟨by simp, by simp, fun h => absurd h (by simp)⟩, .inl ⟨h1, rfl, rfl⟩⟩
  · exact ⟨[], none, 0, 151, rfl, h3.out, ⟨by simp, by simp, fun h => absurd h (by simp)⟩, .inr (.inl ⟨h1, h2, rfl, rfl⟩)⟩
  · exact ⟨_, a', c', 0, rfl, h3.out.2, h3.out.1.row, .inr (.inr ⟨h1, h2, rfl, rfl⟩)⟩
/-- what DecodeOps answers, in one form. -/
theorem dec_one {w : World} {res : Option (List OpS)} {e : Ending} {w' : World} (h : DecOps w res e w') : ∃ m a' c' r, e = .returned (.tuple #[.slice a' (m : List OpS).length c', .int .i64 r]) ∧ Hid (Below w.heap.size w w' ∧ OpsAt w' a' m ∧ ((r = 0 ∧ res = some m) ∨ (r = 151 ∧ m = [] ∧ res = none))) := by
  rcases h with ⟨m, a', c', rfl, rfl, h3⟩ | ⟨rfl, rfl, h3⟩
  · exact ⟨m, a', c', 0, rfl, h3.out.2, h3.out.1, .inl ⟨rfl, rfl⟩⟩
  · exact ⟨[], none, 0, 151, rfl, h3.out, ⟨by simp, by simp, fun h => absurd h (by simp)⟩, .inr ⟨rfl, rfl, rfl⟩⟩

set_option maxHeartbeats 8000000 in
set_option maxRecDepth 100000 in
theorem ops_walk (w : World) (a a2 : Option Addr) (c c2 : Nat) (l : List OpS) (s : List Nat) (hL : OpsAt w a l) (hl : s.length ≤ 140737488351232) (hr : Row w a2 s) :
    Calls Try.prog 5 #[.slice a l.length c, .slice a2 s.length c2] w fun e w' => e = .returned (.bool true) ∧ Hid (Below w.heap.size w w') := by
  have HL : Hid (OpsAt w a l) := hL
  have HR : Hid (Row w a2 s) := hr
  have hln := hL.2.1
  have HBY : Hid (∀ x ∈ s, x < 256) := hr.1
  clear hL hr
  go_enter Try.func5, Try.ntmps5
  by_cases h200 : 200 < l.length
  · have h200i : (200 : Int) < (l.length : Int) := by omega
    go_wp2_with (first | (go_at_call 7; refine (wakes_any _).mono ?_; rintro e w1 ⟨rfl, hq1⟩))
    go_ret
    exact ⟨rfl, hq1.out⟩
  by_cases h1e5 : 100000 < s.length
  · have h1i : (100000 : Int) < (s.length : Int) := by omega
    have h200i : (l.length : Int) ≤ 200 := by omega
    go_wp2_with (first | (go_at_call 7; refine (wakes_any _).mono ?_; rintro e w1 ⟨rfl, hq1⟩))
    go_ret
    exact ⟨rfl, hq1.out⟩
  have h1i : (s.length : Int) ≤ 100000 := by omega
  have h200i : (l.length : Int) ≤ 200 := by omega
  go_wp2_with (first
    | (go_at_call 7; refine (wakes_any _).mono ?_; rintro e w1 ⟨rfl, hq1⟩; have HB1 : Hid (Below w.heap.size w w1) := hq1.out; clear hq1)
    | (at_builtin; go_must (refine wpList_append_ops rfl _ _ rfl w1.heap.size rfl (heap_alloc_new w1 _) a c l ((HL.out.later HB1.out).later ((Below.refl _ w1).alloc (Nat.le_refl _) _)) rfl (by omega) ?_); intro a4 c4 w4 ho4 hgr4; have HX4 : Hid (Below w.heap.size w w4 ∧ OpsAt w4 a4 l) := ⟨below_of HB1.out (grown_below hgr4), ho4⟩; clear ho4 hgr4)
    | (go_at_call 19; refine (encodeOps_any w4 a4 c4 l HX4.out.2).mono ?_; intro e w5 hd5; obtain ⟨X, a5, c5, r5, rfl, hq5⟩ := enc_one hd5; clear hd5; have HX5 : Hid (Below w.heap.size w w5) := below_of HX4.out.1 hq5.out.1))
  go_loopw [7, 33] (fun v i wr => ∃ k : Nat, k ≤ l.length ∧ i = .int .i64 k ∧ v = .bool ((l.take k).all sayB) ∧ Hid (Below w5.heap.size w5 wr)) (fun _ i _ => l.length - (intOf i).toNat)
  case atStart => exact ⟨0, Nat.zero_le _, rfl, rfl, Below.refl _ _⟩
  case round =>
    obtain ⟨k, hk, rfl, rfl, hq⟩ := hrel
    by_cases hkl : k < l.length
    · have HTK : Hid ((l.take (k + 1)).all sayB = ((l.take k).all sayB && sayB l[k])) := by
        show _ = _
        rw [List.take_succ_eq_append_getElem hkl, List.all_append]
        simp
      obtain ⟨b, o, rfl, hc⟩ := HL.out.2.2 (by omega)
      obtain ⟨g0, g1, g2, g3, ab, cb, g4, _, _, _⟩ := (hc k hkl).later (below_of HX5.out hq.out)
      have hfit := HL.out.1 _ (List.getElem_mem hkl)
      have hi1 : (k : Int) < (l.length : Int) := by omega
      clear hc
      obtain ⟨x, hx⟩ : ∃ x, x = l[k] := ⟨_, rfl⟩
      rw [← hx] at g0 g1 g2 g3 g4 hfit HTK
      clear hx
      have HRO : Hid (∀ W, Calls Try.prog 20 #[opv x ab cb] W fun e w' => e = .returned (.bool (sayB x)) ∧ Hid (Below W.heap.size W w')) := fun W => rightOp_any W x.kind x.name x.new x.at_ x.bytes ab cb hfit.1 hfit.2.1 hfit.2.2
      clear hfit
      generalize sayB x = bx at HRO HTK
      obtain ⟨xk, xn, xm, xt, xb⟩ := x
      simp only [opv] at *
      have HBA : Hid (∀ A, Below w5.heap.size w5 (wr.alloc A)) := fun A => hq.out.alloc hq.out.size A
      generalize (l.take k).all sayB = bt at HTK ⊢
      cases bt with
      | false =>
        go_wp2
        go_roundw
        case rel => exact ⟨k + 1, by omega, by go_num, by rw [HTK.out]; rfl, HBA.out _⟩
        case measure => simp [intOf]; omega
      | true =>
        go_wp2_with (first | (go_at_call 20; refine (HRO.out _).mono ?_; rintro e w6 ⟨rfl, hq6⟩))
        go_roundw
        case rel => exact ⟨k + 1, by omega, by go_num, by rw [HTK.out]; simp, below_of (HBA.out _) hq6.out⟩
        case measure => simp [intOf]; omega
    · obtain rfl : k = l.length := by omega
      rw [List.take_length]
      have HRW : Hid (Row wr a5 X) := hq5.out.2.1.later hq.out
      have HXR : Hid (Below w.heap.size w wr) := below_of HX5.out hq.out
      have hcs := hq5.out.2.2
      clear hq5 hq HX5 HX4
      rcases hcs with ⟨h1, rfl, rfl⟩ | ⟨h1, h2, rfl, rfl⟩ | ⟨h1, h2, rfl, rfl⟩
      · have h64 : (64 : Int) < (l.length : Int) := by omega
        clear h1
        generalize l.all sayB = bt
        simp only [List.length_nil] at *
        go_upto_region 20 with fail
        have K5 := HXR.out
        have HRB : Hid (∀ A, Row (wr.alloc A) a2 s) := fun A => HR.out.later (K5.alloc K5.size A)
        go_upto_region 21 with (first
          | (at_builtin; go_must (refine wpList_append_bytes rfl _ _ rfl wr.heap.size rfl (heap_alloc_new wr _) a2 c2 s (HRB.out _) rfl (by omega) ?_); intro a8 c8 w8 r8 l8 m8 hg8; have HX8 : Hid (Below w.heap.size w w8 ∧ Row w8 a8 s) := ⟨below_of K5 (grown_below hg8), r8⟩; clear r8 l8 m8 hg8)
          | (go_at_call 22; refine (decodeOps_any w8 a8 c8 s HX8.out.2 (by omega)).mono ?_; intro e w9 hd9; obtain ⟨m, a9, c9, r9, rfl, hq9⟩ := dec_one hd9; clear hd9; have HX9 : Hid (Below w.heap.size w w9 ∧ OpsAt w9 a9 m) := ⟨below_of HX8.out.1 hq9.out.1, hq9.out.2.1⟩))
        have hcs := hq9.out.2.2
        clear hq9
        rcases hcs with ⟨rfl, hd⟩ | ⟨rfl, rfl, _⟩
        · obtain ⟨h64m, hsm, hem⟩ := decO_enc HBY.out hd
          have h64i : (m.length : Int) ≤ 64 := by omega
          have HSM : Hid (∀ x ∈ m, sayB x = true) := hsm
          have HEM : Hid (encOps m = s) := hem
          clear hd hsm hem
          go_wp2
          go_loopw [92] (fun i wr => ∃ k : Nat, k ≤ m.length ∧ i = .int .i64 k ∧ Hid (Below w9.heap.size w9 wr)) (fun i _ => m.length - (intOf i).toNat)
          case atStart => exact ⟨0, Nat.zero_le _, rfl, Below.refl _ _⟩
          case round =>
            obtain ⟨k, hk, rfl, hq⟩ := hrel
            by_cases hkl : k < m.length
            · obtain ⟨b, o, rfl, hc⟩ := HX9.out.2.2.2 (by omega)
              obtain ⟨g0, g1, g2, g3, ab, cb, g4, _, _, _⟩ := (hc k hkl).later hq.out
              have hfit := HX9.out.2.1 _ (List.getElem_mem hkl)
              have hsay := HSM.out _ (List.getElem_mem hkl)
              have hi1 : (k : Int) < (m.length : Int) := by omega
              clear hc
              obtain ⟨x, hx⟩ : ∃ x, x = m[k] := ⟨_, rfl⟩
              rw [← hx] at g0 g1 g2 g3 g4 hfit hsay
              clear hx
              have HRO : Hid (∀ W, Calls Try.prog 20 #[opv x ab cb] W fun e w' => e = .returned (.bool (sayB x)) ∧ Hid (Below W.heap.size W w')) := fun W => rightOp_any W x.kind x.name x.new x.at_ x.bytes ab cb hfit.1 hfit.2.1 hfit.2.2
              rw [hsay] at HRO
              clear hfit hsay
              obtain ⟨xk, xn, xm, xt, xb⟩ := x
              simp only [opv] at *
              have HBA : Hid (∀ A, Below w9.heap.size w9 (wr.alloc A)) := fun A => hq.out.alloc hq.out.size A
              go_wp2_with (first | (go_at_call 20; refine (HRO.out _).mono ?_; rintro e w10 ⟨rfl, hq10⟩))
              go_roundw
              case rel => exact ⟨k + 1, by omega, by go_num, below_of (HBA.out _) hq10.out⟩
              case measure => simp [intOf]; omega
            · obtain rfl : k = m.length := by omega
              have HOQ := rops_any wr a9 c9 m (HX9.out.2.later hq.out) HSM.out (by omega)
              have HBW : Hid (Below w.heap.size w wr) := below_of HX9.out.1 hq.out
              go_wp2_with (first
                | (go_at_call 21; refine HOQ.mono ?_; rintro e w10 ⟨a10, c10, rfl, hq10⟩)
                | (go_at_call 15; refine (rsame_any a10 a2 c10 c2 (encOps m) s w10 hq10.out.1 (HR.out.later (below_of HBW.out hq10.out.2))).mono ?_; rw [decide_eq_true HEM.out]; rintro e w11 ⟨rfl, n11, hn11⟩; have HX11 : Hid (Below w.heap.size w w11) := (by rw [hn11]; exact below_drewN (below_of HBW.out hq10.out.2) n11); clear hn11))
              go_ret
              exact ⟨ret_bool (by simp), HX11.out⟩
        · simp only [List.length_nil] at *
          go_wp2
          go_ret
          exact ⟨ret_bool (by simp), HX9.out.1⟩
      · have h64 : (l.length : Int) ≤ 64 := by omega
        rw [h2]
        clear h1 h2
        simp only [List.length_nil] at *
        go_upto_region 20 with fail
        have K5 := HXR.out
        have HRB : Hid (∀ A, Row (wr.alloc A) a2 s) := fun A => HR.out.later (K5.alloc K5.size A)
        go_upto_region 21 with (first
          | (at_builtin; go_must (refine wpList_append_bytes rfl _ _ rfl wr.heap.size rfl (heap_alloc_new wr _) a2 c2 s (HRB.out _) rfl (by omega) ?_); intro a8 c8 w8 r8 l8 m8 hg8; have HX8 : Hid (Below w.heap.size w w8 ∧ Row w8 a8 s) := ⟨below_of K5 (grown_below hg8), r8⟩; clear r8 l8 m8 hg8)
          | (go_at_call 22; refine (decodeOps_any w8 a8 c8 s HX8.out.2 (by omega)).mono ?_; intro e w9 hd9; obtain ⟨m, a9, c9, r9, rfl, hq9⟩ := dec_one hd9; clear hd9; have HX9 : Hid (Below w.heap.size w w9 ∧ OpsAt w9 a9 m) := ⟨below_of HX8.out.1 hq9.out.1, hq9.out.2.1⟩))
        have hcs := hq9.out.2.2
        clear hq9
        rcases hcs with ⟨rfl, hd⟩ | ⟨rfl, rfl, _⟩
        · obtain ⟨h64m, hsm, hem⟩ := decO_enc HBY.out hd
          have h64i : (m.length : Int) ≤ 64 := by omega
          have HSM : Hid (∀ x ∈ m, sayB x = true) := hsm
          have HEM : Hid (encOps m = s) := hem
          clear hd hsm hem
          go_wp2
          go_loopw [92] (fun i wr => ∃ k : Nat, k ≤ m.length ∧ i = .int .i64 k ∧ Hid (Below w9.heap.size w9 wr)) (fun i _ => m.length - (intOf i).toNat)
          case atStart => exact ⟨0, Nat.zero_le _, rfl, Below.refl _ _⟩
          case round =>
            obtain ⟨k, hk, rfl, hq⟩ := hrel
            by_cases hkl : k < m.length
            · obtain ⟨b, o, rfl, hc⟩ := HX9.out.2.2.2 (by omega)
              obtain ⟨g0, g1, g2, g3, ab, cb, g4, _, _, _⟩ := (hc k hkl).later hq.out
              have hfit := HX9.out.2.1 _ (List.getElem_mem hkl)
              have hsay := HSM.out _ (List.getElem_mem hkl)
              have hi1 : (k : Int) < (m.length : Int) := by omega
              clear hc
              obtain ⟨x, hx⟩ : ∃ x, x = m[k] := ⟨_, rfl⟩
              rw [← hx] at g0 g1 g2 g3 g4 hfit hsay
              clear hx
              have HRO : Hid (∀ W, Calls Try.prog 20 #[opv x ab cb] W fun e w' => e = .returned (.bool (sayB x)) ∧ Hid (Below W.heap.size W w')) := fun W => rightOp_any W x.kind x.name x.new x.at_ x.bytes ab cb hfit.1 hfit.2.1 hfit.2.2
              rw [hsay] at HRO
              clear hfit hsay
              obtain ⟨xk, xn, xm, xt, xb⟩ := x
              simp only [opv] at *
              have HBA : Hid (∀ A, Below w9.heap.size w9 (wr.alloc A)) := fun A => hq.out.alloc hq.out.size A
              go_wp2_with (first | (go_at_call 20; refine (HRO.out _).mono ?_; rintro e w10 ⟨rfl, hq10⟩))
              go_roundw
              case rel => exact ⟨k + 1, by omega, by go_num, below_of (HBA.out _) hq10.out⟩
              case measure => simp [intOf]; omega
            · obtain rfl : k = m.length := by omega
              have HOQ := rops_any wr a9 c9 m (HX9.out.2.later hq.out) HSM.out (by omega)
              have HBW : Hid (Below w.heap.size w wr) := below_of HX9.out.1 hq.out
              go_wp2_with (first
                | (go_at_call 21; refine HOQ.mono ?_; rintro e w10 ⟨a10, c10, rfl, hq10⟩)
                | (go_at_call 15; refine (rsame_any a10 a2 c10 c2 (encOps m) s w10 hq10.out.1 (HR.out.later (below_of HBW.out hq10.out.2))).mono ?_; rw [decide_eq_true HEM.out]; rintro e w11 ⟨rfl, n11, hn11⟩; have HX11 : Hid (Below w.heap.size w w11) := (by rw [hn11]; exact below_drewN (below_of HBW.out hq10.out.2) n11); clear hn11))
              go_ret
              exact ⟨ret_bool (by simp), HX11.out⟩
        · simp only [List.length_nil] at *
          go_wp2
          go_ret
          exact ⟨ret_bool (by simp), HX9.out.1⟩
      · have h64 : (l.length : Int) ≤ 64 := by omega
        have HOP := rops_any wr a c l (HL.out.later HXR.out) (List.all_eq_true.1 h2) (by omega)
        rw [h2]
        clear h1 h2
        generalize encOps l = E at *
        go_upto_region 20 with (first
          | (go_at_call 21; refine HOP.mono ?_; rintro e w6 ⟨a6, c6, rfl, hq6⟩)
          | (go_at_call 15; refine (rsame_any a5 a6 c5 c6 E E w6 (HRW.out.later hq6.out.2) hq6.out.1).mono ?_; rw [decide_eq_true rfl]; rintro e w7 ⟨rfl, n7, hn7⟩; have HX7 : Hid (Below w.heap.size w w7) := (by rw [hn7]; exact below_drewN (below_of HXR.out hq6.out.2) n7); clear hn7))
        have K5 := HX7.out
        have HRB : Hid (∀ A, Row (w7.alloc A) a2 s) := fun A => HR.out.later (K5.alloc K5.size A)
        go_upto_region 21 with (first
          | (at_builtin; go_must (refine wpList_append_bytes rfl _ _ rfl w7.heap.size rfl (heap_alloc_new w7 _) a2 c2 s (HRB.out _) rfl (by omega) ?_); intro a8 c8 w8 r8 l8 m8 hg8; have HX8 : Hid (Below w.heap.size w w8 ∧ Row w8 a8 s) := ⟨below_of K5 (grown_below hg8), r8⟩; clear r8 l8 m8 hg8)
          | (go_at_call 22; refine (decodeOps_any w8 a8 c8 s HX8.out.2 (by omega)).mono ?_; intro e w9 hd9; obtain ⟨m, a9, c9, r9, rfl, hq9⟩ := dec_one hd9; clear hd9; have HX9 : Hid (Below w.heap.size w w9 ∧ OpsAt w9 a9 m) := ⟨below_of HX8.out.1 hq9.out.1, hq9.out.2.1⟩))
        have hcs := hq9.out.2.2
        clear hq9
        rcases hcs with ⟨rfl, hd⟩ | ⟨rfl, rfl, _⟩
        · obtain ⟨h64m, hsm, hem⟩ := decO_enc HBY.out hd
          have h64i : (m.length : Int) ≤ 64 := by omega
          have HSM : Hid (∀ x ∈ m, sayB x = true) := hsm
          have HEM : Hid (encOps m = s) := hem
          clear hd hsm hem
          go_wp2
          go_loopw [92] (fun i wr => ∃ k : Nat, k ≤ m.length ∧ i = .int .i64 k ∧ Hid (Below w9.heap.size w9 wr)) (fun i _ => m.length - (intOf i).toNat)
          case atStart => exact ⟨0, Nat.zero_le _, rfl, Below.refl _ _⟩
          case round =>
            obtain ⟨k, hk, rfl, hq⟩ := hrel
            by_cases hkl : k < m.length
            · obtain ⟨b, o, rfl, hc⟩ := HX9.out.2.2.2 (by omega)
              obtain ⟨g0, g1, g2, g3, ab, cb, g4, _, _, _⟩ := (hc k hkl).later hq.out
              have hfit := HX9.out.2.1 _ (List.getElem_mem hkl)
              have hsay := HSM.out _ (List.getElem_mem hkl)
              have hi1 : (k : Int) < (m.length : Int) := by omega
              clear hc
              obtain ⟨x, hx⟩ : ∃ x, x = m[k] := ⟨_, rfl⟩
              rw [← hx] at g0 g1 g2 g3 g4 hfit hsay
              clear hx
              have HRO : Hid (∀ W, Calls Try.prog 20 #[opv x ab cb] W fun e w' => e = .returned (.bool (sayB x)) ∧ Hid (Below W.heap.size W w')) := fun W => rightOp_any W x.kind x.name x.new x.at_ x.bytes ab cb hfit.1 hfit.2.1 hfit.2.2
              rw [hsay] at HRO
              clear hfit hsay
              obtain ⟨xk, xn, xm, xt, xb⟩ := x
              simp only [opv] at *
              have HBA : Hid (∀ A, Below w9.heap.size w9 (wr.alloc A)) := fun A => hq.out.alloc hq.out.size A
              go_wp2_with (first | (go_at_call 20; refine (HRO.out _).mono ?_; rintro e w10 ⟨rfl, hq10⟩))
              go_roundw
              case rel => exact ⟨k + 1, by omega, by go_num, below_of (HBA.out _) hq10.out⟩
              case measure => simp [intOf]; omega
            · obtain rfl : k = m.length := by omega
              have HOQ := rops_any wr a9 c9 m (HX9.out.2.later hq.out) HSM.out (by omega)
              have HBW : Hid (Below w.heap.size w wr) := below_of HX9.out.1 hq.out
              go_wp2_with (first
                | (go_at_call 21; refine HOQ.mono ?_; rintro e w10 ⟨a10, c10, rfl, hq10⟩)
                | (go_at_call 15; refine (rsame_any a10 a2 c10 c2 (encOps m) s w10 hq10.out.1 (HR.out.later (below_of HBW.out hq10.out.2))).mono ?_; rw [decide_eq_true HEM.out]; rintro e w11 ⟨rfl, n11, hn11⟩; have HX11 : Hid (Below w.heap.size w w11) := (by rw [hn11]; exact below_drewN (below_of HBW.out hq10.out.2) n11); clear hn11))
              go_ret
              exact ⟨ret_bool (by simp), HX11.out⟩
        · simp only [List.length_nil] at *
          go_wp2
          go_ret
          exact ⟨ret_bool (by simp), HX9.out.1⟩
end Go.Proofs.Ytfocejmfmnijpaa
