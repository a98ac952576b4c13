/- The walks of byKind and do. -/
import Derived.Test.YtfocejmfmnijpaaFPure
namespace Go.Proofs.Ytfocejmfmnijpaa
open Go.RowKit

/-- an operation as a value. -/
def opv (o : OpS) (a : Option Addr) (c : Nat) : Value := .agg #[.int .i64 o.kind, .string o.name, .string o.new, .int .i64 o.at_, .slice a o.bytes.length c]
def opc (o : OpS) (a : Option Addr) (c : Nat) : Obj := .cells #[.int .i64 o.kind, .string o.name, .string o.new, .int .i64 o.at_, .slice a o.bytes.length c] 44

set_option maxHeartbeats 1000000 in
theorem byKind_put (w : World) (p : Nat) (o : OpS) (a : Option Addr) (c : Nat) (r : Int) (R : World → Prop) (hk : o.kind = 1)
    (h : Calls Try.prog 71 #[.pointer (some ⟨p, 0, none⟩), .string o.name, .slice a o.bytes.length c] (w.alloc (opc o a c)) fun e w' => e = .returned (.int .i64 r) ∧ R w') :
    Calls Try.prog 57 #[.pointer (some ⟨p, 0, none⟩), opv o a c] w fun e w' => e = .returned (.int .i64 r) ∧ R w' := by
  obtain ⟨k, n, m, t, b⟩ := o
  obtain rfl : k = 1 := hk
  simp only [opv, opc] at h ⊢
  go_enter Try.func57, Try.ntmps57
  go_wp2_with (go_at_call 71; refine h.mono ?_; rintro e w1 ⟨rfl, hq⟩)
  go_ret
  exact ⟨rfl, hq⟩

set_option maxHeartbeats 1000000 in
theorem byKind_write (w : World) (p : Nat) (o : OpS) (a : Option Addr) (c : Nat) (r : Int) (R : World → Prop) (hk : o.kind = 2)
    (h : Calls Try.prog 72 #[.pointer (some ⟨p, 0, none⟩), .string o.name, .int .i64 o.at_, .slice a o.bytes.length c] (w.alloc (opc o a c)) fun e w' => e = .returned (.int .i64 r) ∧ R w') :
    Calls Try.prog 57 #[.pointer (some ⟨p, 0, none⟩), opv o a c] w fun e w' => e = .returned (.int .i64 r) ∧ R w' := by
  obtain ⟨k, n, m, t, b⟩ := o
  obtain rfl : k = 2 := hk
  simp only [opv, opc] at h ⊢
  go_enter Try.func57, Try.ntmps57
  go_wp2_with (go_at_call 72; refine h.mono ?_; rintro e w1 ⟨rfl, hq⟩)
  go_ret
  exact ⟨rfl, hq⟩

set_option maxHeartbeats 1000000 in
theorem byKind_rename (w : World) (p : Nat) (o : OpS) (a : Option Addr) (c : Nat) (r : Int) (R : World → Prop) (hk : o.kind = 3)
    (h : Calls Try.prog 73 #[.pointer (some ⟨p, 0, none⟩), .string o.name, .string o.new] (w.alloc (opc o a c)) fun e w' => e = .returned (.int .i64 r) ∧ R w') :
    Calls Try.prog 57 #[.pointer (some ⟨p, 0, none⟩), opv o a c] w fun e w' => e = .returned (.int .i64 r) ∧ R w' := by
  obtain ⟨k, n, m, t, b⟩ := o
  obtain rfl : k = 3 := hk
  simp only [opv, opc] at h ⊢
  go_enter Try.func57, Try.ntmps57
  go_wp2_with (go_at_call 73; refine h.mono ?_; rintro e w1 ⟨rfl, hq⟩)
  go_ret
  exact ⟨rfl, hq⟩

set_option maxHeartbeats 1000000 in
theorem byKind_drop (w : World) (p : Nat) (o : OpS) (a : Option Addr) (c : Nat) (r : Int) (R : World → Prop) (hk : o.kind = 4)
    (h : Calls Try.prog 74 #[.pointer (some ⟨p, 0, none⟩), .string o.name] (w.alloc (opc o a c)) fun e w' => e = .returned (.int .i64 r) ∧ R w') :
    Calls Try.prog 57 #[.pointer (some ⟨p, 0, none⟩), opv o a c] w fun e w' => e = .returned (.int .i64 r) ∧ R w' := by
  obtain ⟨k, n, m, t, b⟩ := o
  obtain rfl : k = 4 := hk
  simp only [opv, opc] at h ⊢
  go_enter Try.func57, Try.ntmps57
  go_wp2_with (go_at_call 74; refine h.mono ?_; rintro e w1 ⟨rfl, hq⟩)
  go_ret
  exact ⟨rfl, hq⟩

set_option maxHeartbeats 1000000 in
theorem byKind_other (w : World) (p : Nat) (o : OpS) (a : Option Addr) (c : Nat) (h1 : ¬ o.kind = 1) (h2 : ¬ o.kind = 2) (h3 : ¬ o.kind = 3) (h4 : ¬ o.kind = 4) :
    Calls Try.prog 57 #[.pointer (some ⟨p, 0, none⟩), opv o a c] w fun e w' => e = .returned (.int .i64 2) ∧ Hid (Below w.heap.size w w') := by
  obtain ⟨k, n, m, t, b⟩ := o
  simp only [opv] at *
  have g1 : (k == 1) = false := beq_eq_false_iff_ne.2 h1
  have g2 : (k == 2) = false := beq_eq_false_iff_ne.2 h2
  have g3 : (k == 3) = false := beq_eq_false_iff_ne.2 h3
  have g4 : (k == 4) = false := beq_eq_false_iff_ne.2 h4
  clear h1 h2 h3 h4
  go_enter Try.func57, Try.ntmps57
  go_wp2
  go_ret
  exact ⟨rfl, (Below.refl _ w).alloc (Nat.le_refl _) _⟩


theorem opc_below (w : World) (o : OpS) (a : Option Addr) (c : Nat) : Below w.heap.size w (w.alloc (opc o a c)) := (Below.refl _ w).alloc (Nat.le_refl _) _

theorem byKind_ok (w : World) (p : Nat) (v : Value) (X : List FX) (hT : Turn w p v X) (o : OpS) (a : Option Addr) (c : Nat) (hF : Fair (X.map FX.fil)) (hn : X.length ≤ 1000) (hnm : nameB o.name = true) (hrow : Row w a o.bytes) (L' : List Fil) (he : byKindE (X.map FX.fil) o = .ok L') :
    Calls Try.prog 57 #[.pointer (some ⟨p, 0, none⟩), opv o a c] w fun e w' => e = .returned (.int .i64 0) ∧ Hid (Done w p v X L' w') := by
  have hb := opc_below w o a c
  have hT1 := hT.later hb
  have hns : o.name.size ≤ 140737488351232 := by have := of_decide_eq_true hnm; omega
  unfold byKindE at he
  by_cases h1 : o.kind = 1
  · rw [if_pos h1] at he
    refine byKind_put w p o a c 0 _ h1 ?_
    unfold putE at he
    split at he
    · cases he
    · cases he
      refine (put_ok _ p v X hT1 o.name a c o.bytes hF.1 hn hns (hrow.later hb) (by omega)).mono ?_
      rintro e w' ⟨rfl, hd⟩
      exact ⟨rfl, Done.ahead hb hd.out⟩
  · rw [if_neg h1] at he
    by_cases h2 : o.kind = 2
    · rw [if_pos h2] at he
      refine byKind_write w p o a c 0 _ h2 ?_
      unfold writeE at he
      split at he
      · cases he
      · rename_i ht
        split at he
        · cases he
        · split at he
          · cases he
          · cases he
            obtain ⟨t, ht0⟩ : ∃ t : Nat, o.at_ = (t : Int) := ⟨o.at_.toNat, by omega⟩
            have hbl := bytesOf_le hF o.name
            rw [ht0]
            simp only [ht0] at *
            refine (write_ok _ p v X hT1 o.name t a c o.bytes hF.1 (by simpa using ht) (by omega) hbl (by omega) (hrow.later hb)).mono ?_
            rintro e w' ⟨rfl, hd⟩
            exact ⟨rfl, Done.ahead hb hd.out⟩
    · rw [if_neg h2] at he
      by_cases h3 : o.kind = 3
      · rw [if_pos h3] at he
        refine byKind_rename w p o a c 0 _ h3 ?_
        unfold renameE at he
        split at he
        · cases he
        · rename_i hm
          split at he
          · cases he
          · rename_i ht
            cases he
            refine (rename_ok _ p v X hT1 o.name o.new hF.1 hn (by simpa using hm) (by simpa using ht)).mono ?_
            rintro e w' ⟨rfl, hd⟩
            exact ⟨rfl, Done.ahead hb hd.out⟩
      · rw [if_neg h3] at he
        by_cases h4 : o.kind = 4
        · rw [if_pos h4] at he
          refine byKind_drop w p o a c 0 _ h4 ?_
          unfold dropE at he
          split at he
          · cases he
          · rename_i ht
            cases he
            refine (drop_ok _ p v X hT1 o.name hF.1 hn (by simpa using ht)).mono ?_
            rintro e w' ⟨rfl, hd⟩
            exact ⟨rfl, Done.ahead hb hd.out⟩
        · rw [if_neg h4] at he
          cases he

theorem byKind_no (w : World) (p : Nat) (v : Value) (X : List FX) (hT : Turn w p v X) (o : OpS) (a : Option Addr) (c : Nat) (hF : Fair (X.map FX.fil)) (hl : o.bytes.length ≤ 140737488351232) (hm : o.new.size ≤ 140737488351232) (r : Int) (he : byKindE (X.map FX.fil) o = .error r) :
    Calls Try.prog 57 #[.pointer (some ⟨p, 0, none⟩), opv o a c] w fun e w' => e = .returned (.int .i64 r) ∧ Hid (Below w.heap.size w w') := by
  have hb := opc_below w o a c
  have hT1 := hT.later hb
  unfold byKindE at he
  by_cases h1 : o.kind = 1
  · rw [if_pos h1] at he
    refine byKind_put w p o a c r _ h1 ?_
    unfold putE at he
    split at he
    · rename_i hlong
      cases he
      refine (put_long _ p o.name a c o.bytes.length hlong).mono ?_
      rintro e w' ⟨rfl, rfl⟩
      exact ⟨rfl, hb⟩
    · cases he
  · rw [if_neg h1] at he
    by_cases h2 : o.kind = 2
    · rw [if_pos h2] at he
      refine byKind_write w p o a c r _ h2 ?_
      unfold writeE at he
      split at he
      · rename_i ht
        cases he
        refine (write_none _ p v X hT1 o.name o.at_ _ hF.1 ht).mono ?_
        rintro e w' ⟨rfl, hd⟩
        exact ⟨rfl, below_of hb hd.out⟩
      · rename_i ht
        split at he
        · rename_i hat
          cases he
          refine (write_arg _ p v X hT1 o.name o.at_ _ hF.1 (by simpa using ht) hat).mono ?_
          rintro e w' ⟨rfl, hd⟩
          exact ⟨rfl, below_of hb hd.out⟩
        · split at he
          · cases he
            obtain ⟨t, ht0⟩ : ∃ t : Nat, o.at_ = (t : Int) := ⟨o.at_.toNat, by omega⟩
            have hbl := bytesOf_le hF o.name
            rw [ht0]
            simp only [ht0] at *
            refine (write_long _ p v X hT1 o.name t a o.bytes.length c hF.1 (by simpa using ht) (by omega) hbl (by omega) hl).mono ?_
            rintro e w' ⟨rfl, hd⟩
            exact ⟨rfl, below_of hb hd.out⟩
          · cases he
    · rw [if_neg h2] at he
      by_cases h3 : o.kind = 3
      · rw [if_pos h3] at he
        refine byKind_rename w p o a c r _ h3 ?_
        unfold renameE at he
        split at he
        · rename_i hmm
          cases he
          refine (rename_arg _ p o.name o.new hm hmm).mono ?_
          rintro e w' ⟨rfl, rfl⟩
          exact ⟨rfl, hb⟩
        · rename_i hmm
          split at he
          · rename_i ht
            cases he
            refine (rename_none _ p v X hT1 o.name o.new hm hF.1 (by simpa using hmm) ht).mono ?_
            rintro e w' ⟨rfl, hd⟩
            exact ⟨rfl, below_of hb hd.out⟩
          · cases he
      · rw [if_neg h3] at he
        by_cases h4 : o.kind = 4
        · rw [if_pos h4] at he
          refine byKind_drop w p o a c r _ h4 ?_
          unfold dropE at he
          split at he
          · rename_i ht
            cases he
            refine (drop_none _ p v X hT1 o.name hF.1 ht).mono ?_
            rintro e w' ⟨rfl, hd⟩
            exact ⟨rfl, below_of hb hd.out⟩
          · cases he
        · rw [if_neg h4] at he
          cases he
          exact byKind_other w p o a c h1 h2 h3 h4

set_option maxHeartbeats 1000000 in
theorem do_arg (w : World) (p : Nat) (o : OpS) (a : Option Addr) (c : Nat) (hs : o.name.size ≤ 140737488351232) (hn : nameB o.name = false) :
    Calls Try.prog 28 #[.pointer (some ⟨p, 0, none⟩), opv o a c] w fun e w' => e = .returned (.int .i64 2) ∧ Hid (Below w.heap.size w w') := by
  obtain ⟨k, n, m, t, b⟩ := o
  simp only [opv] at *
  go_enter Try.func28, Try.ntmps28
  go_wp2_with (go_at_call 55; refine (isName_any n _ hs).mono ?_; rw [hn]; rintro e w0 ⟨rfl, rfl⟩)
  go_ret
  exact ⟨rfl, (Below.refl _ w).alloc (Nat.le_refl _) _⟩

set_option maxHeartbeats 1000000 in
theorem do_err (w : World) (p : Nat) (o : OpS) (a : Option Addr) (c : Nat) (hs : o.name.size ≤ 140737488351232) (hn : nameB o.name = true) (r : Int) (hr : (r != 0) = true) (R : World → Prop)
    (h : Calls Try.prog 57 #[.pointer (some ⟨p, 0, none⟩), opv o a c] (w.alloc (opc o a c)) fun e w' => e = .returned (.int .i64 r) ∧ R w') :
    Calls Try.prog 28 #[.pointer (some ⟨p, 0, none⟩), opv o a c] w fun e w' => e = .returned (.int .i64 r) ∧ R w' := by
  obtain ⟨k, n, m, t, b⟩ := o
  simp only [opv, opc] at *
  have HN : Hid (nameB n = true) := hn
  clear hn
  go_enter Try.func28, Try.ntmps28
  go_wp2_with (first | (go_at_call 55; refine (isName_any n _ hs).mono ?_; rw [HN.out]; rintro e w0 ⟨rfl, rfl⟩) | (go_at_call 57; refine h.mono ?_; rintro e w1 ⟨rfl, hq⟩))
  go_ret
  exact ⟨rfl, hq⟩

theorem Turned.behind {a b c : World} {p : Nat} {v v' : Value} {X : List FX} (h : Turned a b p v v' X) (hb : Below b.heap.size b c) : Turned a c p v v' X :=
  ⟨h.turn.later hb, h.off.trans (Off.of_below (S := own p v) hb) (fun _ _ t => t), h.new⟩

def fullI (b : Bool) : Int := if b then 6 else 0

set_option maxHeartbeats 1000000 in
theorem do_done (w : World) (p : Nat) (o : OpS) (a : Option Addr) (c : Nat) (hs : o.name.size ≤ 140737488351232) (hn : nameB o.name = true) (v : Value) (X : List FX) (L' : List Fil) (hc : costS L' ≤ 4611686018427387904)
    (h : Calls Try.prog 57 #[.pointer (some ⟨p, 0, none⟩), opv o a c] (w.alloc (opc o a c)) fun e w' => e = .returned (.int .i64 0) ∧ Hid (Done (w.alloc (opc o a c)) p v X L' w')) :
    Calls Try.prog 28 #[.pointer (some ⟨p, 0, none⟩), opv o a c] w fun e w' => e = .returned (.int .i64 (fullI (overB L'))) ∧ Hid (Done w p v X L' w') := by
  have hb := opc_below w o a c
  obtain ⟨k, n, m, t, b⟩ := o
  simp only [opv, opc] at *
  have HN : Hid (nameB n = true) := hn
  have HB : Hid (Below w.heap.size w (w.alloc (.cells #[.int .i64 k, .string n, .string m, .int .i64 t, .slice a b.length c] 44))) := hb
  clear hn hb
  cases hov : overB L' with
  | true =>
    have HF : Hid (fullI true = 6) := rfl
    go_enter Try.func28, Try.ntmps28
    go_wp2_with (first | (go_at_call 55; refine (isName_any n _ hs).mono ?_; rw [HN.out]; rintro e w0 ⟨rfl, rfl⟩) | (go_at_call 57; refine h.mono ?_; rintro e w1 ⟨rfl, hq⟩; obtain ⟨v', X', ht, hx, hlx⟩ := hq.out; obtain ⟨a2, c2, rfl, hv1, hv2⟩ := ht.turn.form; have d1 := ht.turn.cell; have hL := ht.turn.listAt.1; rw [hx] at hL; have hlen : X'.length = L'.length := (by rw [← hx]; simp); rw [hlen] at d1; have HL : Hid (ListAt w1 a2 L') := hL; have HTT : Hid (Turned (w.alloc (.cells #[.int .i64 k, .string n, .string m, .int .i64 t, .slice a b.length c] 44)) w1 p v (.slice a2 X'.length c2) X' ∧ X'.map FX.fil = L') := ⟨ht, hx⟩; clear hL hx ht hlen hq) | (go_at_call 53; refine (overfull_any _ a2 c2 L' HL.out hc).mono ?_; rw [hov]; rintro e w2 ⟨rfl, hb2⟩))
    go_ret
    exact ⟨ret_int HF.out.symm, Done.ahead HB.out ⟨_, X', HTT.out.1.behind hb2, HTT.out.2, hlx⟩⟩
  | false =>
    have HF : Hid (fullI false = 0) := rfl
    go_enter Try.func28, Try.ntmps28
    go_wp2_with (first | (go_at_call 55; refine (isName_any n _ hs).mono ?_; rw [HN.out]; rintro e w0 ⟨rfl, rfl⟩) | (go_at_call 57; refine h.mono ?_; rintro e w1 ⟨rfl, hq⟩; obtain ⟨v', X', ht, hx, hlx⟩ := hq.out; obtain ⟨a2, c2, rfl, hv1, hv2⟩ := ht.turn.form; have d1 := ht.turn.cell; have hL := ht.turn.listAt.1; rw [hx] at hL; have hlen : X'.length = L'.length := (by rw [← hx]; simp); rw [hlen] at d1; have HL : Hid (ListAt w1 a2 L') := hL; have HTT : Hid (Turned (w.alloc (.cells #[.int .i64 k, .string n, .string m, .int .i64 t, .slice a b.length c] 44)) w1 p v (.slice a2 X'.length c2) X' ∧ X'.map FX.fil = L') := ⟨ht, hx⟩; clear hL hx ht hlen hq) | (go_at_call 53; refine (overfull_any _ a2 c2 L' HL.out hc).mono ?_; rw [hov]; rintro e w2 ⟨rfl, hb2⟩))
    go_ret
    exact ⟨ret_int HF.out.symm, Done.ahead HB.out ⟨_, X', HTT.out.1.behind hb2, HTT.out.2, hlx⟩⟩

theorem do_ok (w : World) (p : Nat) (v : Value) (X : List FX) (hT : Turn w p v X) (o : OpS) (a : Option Addr) (c : Nat) (hR : rightB (X.map FX.fil) = true) (hs : o.name.size ≤ 140737488351232) (hrow : Row w a o.bytes) (L' : List Fil) (he : doE (X.map FX.fil) o = .ok L') :
    Calls Try.prog 28 #[.pointer (some ⟨p, 0, none⟩), opv o a c] w fun e w' => e = .returned (.int .i64 0) ∧ Hid (Done w p v X L' w') := by
  have hb := opc_below w o a c
  have hF := fair_of hR
  have hlen : X.length ≤ 64 := by have := (right_over hR).1; simpa using this
  unfold doE at he
  split at he
  · cases he
  · rename_i hn
    have hn : nameB o.name = true := by simpa using hn
    split at he
    · cases he
    · rename_i L2 hk
      split at he
      · cases he
      · rename_i ho
        cases he
        obtain ⟨hF2, hl2⟩ := byKind_fair hF hn hk
        have hc := cost_bound hF2.2
        have := do_done w p o a c hs hn v X L' (by rw [List.length_map] at hl2; omega) (byKind_ok _ p v X (hT.later hb) o a c hF (by omega) hn (hrow.later hb) L' hk)
        rw [show overB L' = false by simpa using ho] at this
        exact this

theorem do_no (w : World) (p : Nat) (v : Value) (X : List FX) (hT : Turn w p v X) (o : OpS) (a : Option Addr) (c : Nat) (hR : rightB (X.map FX.fil) = true) (hs : o.name.size ≤ 140737488351232) (hm : o.new.size ≤ 140737488351232) (hl : o.bytes.length ≤ 140737488351232) (hrow : Row w a o.bytes) (r : Int) (he : doE (X.map FX.fil) o = .error r) :
    Calls Try.prog 28 #[.pointer (some ⟨p, 0, none⟩), opv o a c] w fun e w' => e = .returned (.int .i64 r) ∧ Hid (Off (own p v) w w') := by
  have hb := opc_below w o a c
  have hF := fair_of hR
  have hlen : X.length ≤ 64 := by have := (right_over hR).1; simpa using this
  unfold doE at he
  split at he
  · rename_i hn
    cases he
    refine (do_arg w p o a c hs hn).mono ?_
    rintro e w' ⟨rfl, h⟩
    exact ⟨rfl, Off.of_below h.out⟩
  · rename_i hn
    have hn : nameB o.name = true := by simpa using hn
    split at he
    · rename_i r2 hk
      cases he
      have hr : (r != 0) = true := by rcases byKind_err hk with rfl | rfl | rfl <;> rfl
      refine (do_err w p o a c hs hn r hr _ (byKind_no _ p v X (hT.later hb) o a c hF hl hm r hk)).mono ?_
      rintro e w' ⟨rfl, h⟩
      exact ⟨rfl, Off.of_below (below_of hb h.out)⟩
    · rename_i L2 hk
      split at he
      · rename_i ho
        cases he
        obtain ⟨hF2, hl2⟩ := byKind_fair hF hn hk
        have hc := cost_bound hF2.2
        refine (do_done w p o a c hs hn v X L2 (by rw [List.length_map] at hl2; omega) (byKind_ok _ p v X (hT.later hb) o a c hF (by omega) hn (hrow.later hb) L2 hk)).mono ?_
        rintro e w' ⟨rfl, h⟩
        rw [ho]
        obtain ⟨v', X', ht, _⟩ := h.out
        exact ⟨rfl, ht.off⟩
      · cases he

end Go.Proofs.Ytfocejmfmnijpaa
