/- receiver.differs: does a byte that has come in stand otherwise in a segment? -/
import Derived.Test.YthmolodkaboakaaVSay
import Derived.Test.YthmolodkaboakaaVSmall
import Derived.ScopeJumps
namespace Go.Proofs.Ythmolodkaboakaa
open Go.RowKit
set_option linter.unusedVariables false
/-- has the byte at i come in? -/
def inC (l : List (Int × Int)) (i : Int) : Bool := l.any fun r => decide (r.1 ≤ i) && decide (i < r.1 + r.2)
/-- does a byte stand otherwise? -/
def difK (s : Tk) (x : Sg) : Bool := (List.range x.dat.length).any fun j => inC s.got (x.off + j) && !decide (s.byt[x.off.toNat + j]? = x.dat[j]?)
/-- the bytes of a row stand the same in the data. -/
def RowSame (B D : List Nat) (O : Int) (r : Int × Int) : Prop := ∀ j : Nat, j < D.length → r.1 ≤ O + j → O + j < r.1 + r.2 → B[O.toNat + j]? = D[j]?
theorem difK_no {s : Tk} {x : Sg} (h : ∀ r ∈ s.got, RowSame s.byt x.dat x.off r) : difK s x = false := by
  unfold difK
  rw [Bool.eq_false_iff]
  intro e
  rw [List.any_eq_true] at e
  obtain ⟨j, hj, e⟩ := e
  simp only [Bool.and_eq_true, Bool.not_eq_true', decide_eq_false_iff_not, inC, List.any_eq_true, decide_eq_true_eq] at e
  obtain ⟨⟨r, hr, h1, h2⟩, h3⟩ := e
  exact h3 (h r hr j (List.mem_range.1 hj) h1 h2)
theorem difK_yes {s : Tk} {x : Sg} {r : Int × Int} (hr : r ∈ s.got) {j : Nat} (hj : j < x.dat.length) (h1 : r.1 ≤ x.off + j) (h2 : x.off + j < r.1 + r.2) (h3 : s.byt[x.off.toNat + j]? ≠ x.dat[j]?) : difK s x = true := by
  unfold difK
  rw [List.any_eq_true]
  refine ⟨j, List.mem_range.2 hj, ?_⟩
  simp only [Bool.and_eq_true, Bool.not_eq_true', decide_eq_false_iff_not, inC, List.any_eq_true, decide_eq_true_eq]
  exact ⟨⟨r, hr, h1, h2⟩, h3⟩
theorem row_at' {w : World} {a : Option Addr} {l : List Nat} (h : Row w a l) (k : Nat) (hk : k < l.length) : ∃ b off, a = some ⟨b, off, none⟩ ∧ w.cell? ⟨b, off + k, none⟩ = some (.int .u8 (l[k] : Nat)) ∧ l[k] < 256 := by
  obtain ⟨b, off, rfl, hc⟩ := h.2.2 (by omega)
  refine ⟨b, off, rfl, ?_, h.1 _ (List.getElem_mem hk)⟩
  rw [hc k hk, List.getD_eq_getElem?_getD, List.getElem?_eq_getElem hk]
  rfl
attribute [local go_sem] jump_ret jump_normal jump_exit jump_panic jump_goto
set_option maxRecDepth 20000 in
set_option maxHeartbeats 4000000 in
theorem vdif_any (s : Tk) (a : Option Addr) (c : Nat) (g : Option Addr) (d : Nat) (x : Sg) (xa : Option Addr) (xc : Nat) (a2 : Option Addr) (c2 : Nat) (w : World) (hb : Row w a s.byt) (hg : RowC w g s.got) (hd : Row w xa x.dat) (hL : ∀ r ∈ s.got, (0 ≤ r.1 ∧ r.1 ≤ 512) ∧ (0 ≤ r.2 ∧ r.2 ≤ 512)) (hl : s.got.length ≤ 1000) (ho : 0 ≤ x.off) (hod : x.off + (x.dat.length : Int) ≤ (s.byt.length : Int)) (hs : s.byt.length ≤ 512) :
    Calls Try.prog 54 #[kv s a c g d, sv x xa xc a2 c2] w fun e w' => e = .returned (.bool (difK s x)) ∧ Hid (Below w.heap.size w w') := by
  have HB : Hid (Row w a s.byt) := hb
  have HG : Hid (RowC w g s.got) := hg
  have HD : Hid (Row w xa x.dat) := hd
  have HL : Hid (∀ r ∈ s.got, (0 ≤ r.1 ∧ r.1 ≤ 512) ∧ (0 ≤ r.2 ∧ r.2 ≤ 512)) := hL
  clear hb hg hd hL
  go_enter Try.func54, Try.ntmps54
  have HB0 : Hid (Below w.heap.size w ((w.alloc (kc s a c g d)).alloc (sc x xa xc a2 c2))) := ((Below.refl _ w).alloc (Nat.le_refl _) _).alloc (by simp) _
  have HP0 : Hid (((w.alloc (kc s a c g d)).alloc (sc x xa xc a2 c2)).heap[w.heap.size]? = some (kc s a c g d) ∧ ((w.alloc (kc s a c g d)).alloc (sc x xa xc a2 c2)).heap[w.heap.size + 1]? = some (sc x xa xc a2 c2)) := ⟨old_block ((Below.refl _ (w.alloc (kc s a c g d))).alloc (Nat.le_refl _) _) (heap_alloc_new w _), second_new _ _ _⟩
  have HS0 : Hid (((w.alloc (kc s a c g d)).alloc (sc x xa xc a2 c2)).heap.size = w.heap.size + 2) := by show _ = _; simp
  go_wp2_with fail
  generalize (w.alloc (kc s a c g d)).alloc (sc x xa xc a2 c2) = W0 at HB0 HP0 HS0 ⊢
  have k4 := (kcells_get HP0.out.1).2.2.2.2.1
  refine wp_scope_once 0 rfl ?_
  go_wp2
  refine wp_label ?_
  go_wp2
  go_loopw [5, 14] (fun f i wr => ∃ (k : Nat), k ≤ s.got.length ∧ f = .bool false ∧ i = .int .i64 k ∧ Hid (∀ r ∈ s.got.take k, RowSame s.byt x.dat x.off r) ∧ Hid (Below W0.heap.size W0 wr)) (fun _ i _ => s.got.length - (intOf i).toNat)
  case atStart => exact ⟨0, by omega, rfl, rfl, by intro r hr; simp at hr, Below.refl _ _⟩
  case round =>
    obtain ⟨k, hk, rfl, rfl, HE, HW⟩ := hrel
    by_cases hlt : k < s.got.length
    · obtain ⟨b, off, rfl, hc⟩ := (HG.out.later (below_of HB0.out HW.out)).2 (by omega)
      obtain ⟨hc1, hc2⟩ := hc k hlt
      obtain ⟨⟨p1, p2⟩, q1, q2⟩ := HL.out s.got[k] (List.getElem_mem hlt)
      have HTK : Hid (s.got.take (k + 1) = s.got.take k ++ [(s.got[k].1, s.got[k].2)]) := by show _ = _; rw [List.take_add_one, List.getElem?_eq_getElem hlt]; rfl
      clear hc
      generalize s.got[k].1 = p at *
      generalize s.got[k].2 = q at *
      have HPB : Hid (∀ A, (wr.alloc A).heap[w.heap.size]? = some (kc s a c (some ⟨b, off, none⟩) d) ∧ (wr.alloc A).heap[w.heap.size + 1]? = some (sc x xa xc a2 c2)) := fun A => by
        have hb1 := below_of HW.out ((Below.refl _ wr).alloc (Nat.le_refl _) A)
        exact ⟨old_block hb1 HP0.out.1, old_block hb1 HP0.out.2⟩
      have x5 : ∀ A, (wr.alloc A).cell? ⟨w.heap.size + 1, 5, none⟩ = some (.int .i64 x.off) := fun A => (scells (HPB.out A).2).2.2.2.2.2.1
      have x11 : ∀ A, (wr.alloc A).cell? ⟨w.heap.size + 1, 11, none⟩ = some (.slice xa x.dat.length xc) := fun A => (scells (HPB.out A).2).2.2.2.2.2.2.2.2.2.2.2.1
      have s3 : ∀ A, (wr.alloc A).cell? ⟨w.heap.size, 3, none⟩ = some (.slice a s.byt.length c) := fun A => (kcells_get (HPB.out A).1).2.2.2.1
      go_wp2
      go_cut [8, 9] from 18 to 35 (fun f t wd => ∃ (n : Nat) (F T : Int), f = .int .i64 F ∧ t = .int .i64 T ∧ p ≤ F ∧ x.off ≤ F ∧ T ≤ p + q ∧ T ≤ x.off + (x.dat.length : Int) ∧ Hid ((F = p ∨ F = x.off) ∧ (T = p + q ∨ T = x.off + (x.dat.length : Int))) ∧ wd = (wr.alloc (.cells #[.int .i64 p, .int .i64 q] 60)).drewN n)
      case first =>
        go_quiet (fail)
        all_goals go_wp2
        all_goals
          go_meet
          case rel => exact ⟨_, _, _, rfl, rfl, by omega, by omega, by omega, by omega, by first | exact ⟨.inl rfl, .inl rfl⟩ | exact ⟨.inl rfl, .inr rfl⟩ | exact ⟨.inr rfl, .inl rfl⟩ | exact ⟨.inr rfl, .inr rfl⟩, rfl⟩
      case rest =>
        obtain ⟨n, F, T, rfl, rfl, f1, f2, t1, t2, HFT, rfl⟩ := hcut
        have HBW : Hid (∀ n, Below w.heap.size w ((wr.alloc (.cells #[.int .i64 p, .int .i64 q] 60)).drewN n)) := fun n => below_drewN (below_of (below_of HB0.out HW.out) ((Below.refl _ wr).alloc (Nat.le_refl _) _)) n
        go_wp2
        rename World => wo
        go_loopw [5, 10] (fun f i wi => ∃ (m : Nat) (j : Int), f = .bool false ∧ i = .int .i64 j ∧ F ≤ j ∧ j ≤ 4096 ∧ Hid (∀ e : Nat, p ≤ x.off + e → x.off + e < j → e < x.dat.length → s.byt[x.off.toNat + e]? = x.dat[e]?) ∧ wi = (wo.alloc (.cells #[.int .i64 p, .int .i64 q] 60)).drewN m) (fun _ i _ => (T - intOf i).toNat)
        case atStart => exact ⟨n, F, rfl, rfl, by omega, by have := HFT.out; omega, fun e h1 h2 => by have := HFT.out; omega, rfl⟩
        case round =>
          obtain ⟨m, j, rfl, rfl, hj1, hj2, HJ, rfl⟩ := hrel
          by_cases hjt : j < T
          · obtain ⟨O, hO⟩ : ∃ O : Nat, x.off = O := ⟨x.off.toNat, by omega⟩
            obtain ⟨N, rfl⟩ : ∃ N : Nat, j = N := ⟨j.toNat, by omega⟩
            obtain ⟨e, hNe⟩ : ∃ e : Nat, N = O + e := ⟨N - O, by omega⟩
            have he : e < x.dat.length := by omega
            have hN : N < s.byt.length := by omega
            have HBA : Hid (Below w.heap.size w (wo.alloc (.cells #[.int .i64 p, .int .i64 q] 60))) := below_of (below_of HB0.out HW.out) ((Below.refl _ wo).alloc (Nat.le_refl _) _)
            obtain ⟨bd, od, rfl, hcd, hyd⟩ := row_at' (HD.out.later HBA.out) e he
            obtain ⟨bb, ob, rfl, hcb, hyb⟩ := row_at' (HB.out.later HBA.out) N hN
            have HD1 : Hid (x.dat[e]? = some x.dat[e]) := List.getElem?_eq_getElem he
            have HD2 : Hid (s.byt[x.off.toNat + e]? = some s.byt[N]) := by show _ = _; rw [hO, Int.toNat_natCast, ← hNe]; exact List.getElem?_eq_getElem hN
            generalize x.dat[e] = y at hcd hyd HD1
            generalize s.byt[N] = z at hcb hyb HD2
            rw [hO] at x5
            have hsub : (N : Int) - (O : Int) = (e : Int) := by omega
            have hi1 : (N : Int) < (s.byt.length : Int) := by omega
            have hi2 : (e : Int) < (x.dat.length : Int) := by omega
            have HNe : Hid (N = O + e ∧ x.off = O) := ⟨hNe, hO⟩
            clear hNe hO
            by_cases hyz : z = y
            · subst hyz
              have hq : ((z : Int) != (z : Int)) = false := by simp
              have HJ2 : Hid (∀ e : Nat, p ≤ x.off + e → x.off + e < (N : Int) + 1 → e < x.dat.length → s.byt[x.off.toNat + e]? = x.dat[e]?) := by
                intro e2 h1 h2 h3
                by_cases h4 : x.off + (e2 : Int) < (N : Int)
                · exact HJ.out e2 h1 h4 h3
                · obtain rfl : e2 = e := by have := HNe.out; omega
                  rw [HD1.out, HD2.out]
              go_wp2
              go_quiet (fail)
              go_wp2
              go_roundw
              case rel => exact ⟨m + nq, (N : Int) + 1, rfl, rfl, by omega, by omega, HJ2.out, rfl⟩
              case measure => simp [intOf]; omega
            · have hq : ((z : Int) != (y : Int)) = true := by simp; omega
              have HY : Hid (difK s x = true) := difK_yes (r := (p, q)) (by have : (p, q) ∈ s.got.take (k + 1) := by (rw [HTK.out]; simp)
                                                                            exact List.mem_of_mem_take this) he (by have := HNe.out; simp only; omega) (by have := HNe.out; simp only; omega) (by rw [HD1.out, HD2.out]; simpa using hyz)
              go_wp2
              go_quiet (fail)
              go_wp2
              rw [jump_ret]
              go_ret
              exact ⟨ret_bool HY.out.symm, below_drewN (HBW.out m) nq⟩
          · have HFI : Hid (∀ r ∈ s.got.take (k + 1), RowSame s.byt x.dat x.off r) := by
              rw [HTK.out]
              intro r hr
              rcases List.mem_append.1 hr with hr | hr
              · exact HE.out r hr
              · rw [List.mem_singleton.1 hr]
                intro e h1 h2 h3
                exact HJ.out e h2 (by have := HFT.out; simp only at h3; omega) h1
            have HFB : Hid (∀ m, Below W0.heap.size W0 ((wo.alloc (.cells #[.int .i64 p, .int .i64 q] 60)).drewN m)) := fun m => below_drewN (below_of HW.out ((Below.refl _ wo).alloc (Nat.le_refl _) _)) m
            go_wp2
            go_roundw
            case rel => exact ⟨k + 1, by omega, rfl, by go_num, HFI.out, HFB.out _⟩
            case measure => simp [intOf]; omega
    · obtain rfl : k = s.got.length := by omega
      go_wp2
      rw [jump_ret]
      go_ret
      exact ⟨ret_bool (difK_no (by rw [← List.take_length (l := s.got)]; exact HE.out)).symm, below_of HB0.out HW.out⟩
end Go.Proofs.Ythmolodkaboakaa
