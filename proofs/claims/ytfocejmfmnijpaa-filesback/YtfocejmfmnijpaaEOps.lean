/- The walk of putOp. -/
import Derived.Test.YtfocejmfmnijpaaESay
import Derived.Test.YtfocejmfmnijpaaEEncode
import Derived.Test.YtfocejmfmnijpaaFGather
namespace Go.Proofs.Ytfocejmfmnijpaa
open Go.RowKit

/-- what stands behind an operation's name. -/
def encTail (o : OpS) : List Nat := if o.kind = 1 then encBytes o.bytes else if o.kind = 2 then be o.at_.toNat 2 ++ encBytes o.bytes else if o.kind = 3 then encName o.new else []
/-- An operation's bytes. -/
def encOp (o : OpS) : List Nat := o.kind.toNat :: (encName o.name ++ encTail o)

theorem name_size {s : ByteArray} (h : nameB s = true) : 1 ≤ s.size ∧ s.size ≤ 24 := of_decide_eq_true h
/-- what a sayable operation is. -/
theorem say_is {o : OpS} (h : sayB o = true) : nameB o.name = true ∧ o.bytes.length ≤ 4096 ∧ ((o.kind = 1 ∧ o.new.size = 0 ∧ o.at_ = 0) ∨ (o.kind = 2 ∧ o.new.size = 0 ∧ 0 ≤ o.at_ ∧ o.at_ ≤ 4096) ∨ (o.kind = 3 ∧ nameB o.new = true ∧ o.at_ = 0 ∧ o.bytes.length = 0) ∨ (o.kind = 4 ∧ o.new.size = 0 ∧ o.at_ = 0 ∧ o.bytes.length = 0)) := by
  simp only [sayB, Bool.and_eq_true, decide_eq_true_eq] at h
  obtain ⟨⟨h1, h2⟩, h3⟩ := h
  refine ⟨h1, h2, ?_⟩
  unfold sayK at h3
  split at h3
  · simp only [Bool.and_eq_true, decide_eq_true_eq] at h3; exact .inl ⟨‹_›, h3⟩
  · split at h3
    · simp only [Bool.and_eq_true, decide_eq_true_eq] at h3; exact .inr (.inl ⟨‹_›, h3⟩)
    · split at h3
      · simp only [Bool.and_eq_true, decide_eq_true_eq] at h3; exact .inr (.inr (.inl ⟨‹_›, h3.1.1, h3.1.2, h3.2⟩))
      · split at h3
        · simp only [Bool.and_eq_true, decide_eq_true_eq] at h3; exact .inr (.inr (.inr ⟨‹_›, h3.1.1, h3.1.2, h3.2⟩))
        · cases h3
theorem encTail_byte {o : OpS} (h : sayB o = true) (hb : ∀ x ∈ o.bytes, x < 256) : ∀ x ∈ encTail o, x < 256 := by
  obtain ⟨_, _, h3⟩ := say_is h
  unfold encTail
  intro x hx
  split at hx
  · exact encBytes_byte hb x hx
  · split at hx
    · rcases List.mem_append.1 hx with hx | hx
      · exact be_byte _ _ x hx
      · exact encBytes_byte hb x hx
    · split at hx
      · refine encName_byte ?_ x hx
        rcases h3 with h3 | h3 | h3 | h3
        · omega
        · omega
        · have := name_size h3.2.1; omega
        · omega
      · simp at hx
theorem encOp_byte {o : OpS} (h : sayB o = true) (hb : ∀ x ∈ o.bytes, x < 256) : ∀ x ∈ encOp o, x < 256 := by
  obtain ⟨h1, _, h3⟩ := say_is h
  have hn := name_size h1
  intro x hx
  rcases List.mem_cons.1 hx with rfl | hx
  · omega
  · rcases List.mem_append.1 hx with hx | hx
    · exact encName_byte (by omega) x hx
    · exact encTail_byte h hb x hx
theorem encOp_length {o : OpS} (h : sayB o = true) : (encOp o).length ≤ 4200 := by
  obtain ⟨h1, h2, h3⟩ := say_is h
  have hn := name_size h1
  have ht : (encTail o).length ≤ 4110 := by
    unfold encTail
    split
    · simp [encBytes, be_length]; omega
    · split
      · simp [encBytes, be_length]; omega
      · split
        · rcases h3 with h3 | h3 | h3 | h3
          · omega
          · omega
          · have := name_size h3.2.1; simp [encName, nbytes_length]; omega
          · omega
        · simp
  simp only [encOp, encName, List.length_cons, List.length_append, nbytes_length]
  omega

/-- the world within putOp: the operation's own block, the bytes so far. -/
structure PO (w : World) (base : Nat) (v0 : Value) (o : OpS) (a : Option Addr) (c : Nat) (wr : World) (v : Value) (l : List Nat) : Prop where
  box : wr.heap[w.heap.size]? = some (.cells #[.int .i64 o.kind, .string o.name, .string o.new, .int .i64 o.at_, .slice a o.bytes.length c] 44 (0, 0))
  row : wr.ownsRow base 5 1 v l.length (cells l)
  grew : Grew w wr v0 v
  far : ∀ k, v.ownBlock = some k → k ≠ w.heap.size
  lo : base ≤ w.heap.size
  own0 : ∀ k, v0.ownBlock = some k → base ≤ k ∧ k < w.heap.size
theorem PO.step {w wr w' : World} {base : Nat} {v0 : Value} {o : OpS} {a : Option Addr} {c : Nat} {v v' : Value} {l l' : List Nat} (h : PO w base v0 o a c wr v l) (hown : w'.ownsRow base 5 1 v' l'.length (cells l')) (hg : Grew wr w' v v') : PO w base v0 o a c w' v' l' :=
  ⟨hg.off.at h.box (fun e => h.far _ e rfl), hown, h.grew.trans hg, fun k e => (hg.new k e).elim (h.far k) (fun hge => by have := (Array.getElem?_eq_some_iff.1 h.box).1; omega), h.lo, h.own0⟩
theorem PO.size {w wr : World} {base : Nat} {v0 : Value} {o : OpS} {a : Option Addr} {c : Nat} {v : Value} {l : List Nat} (h : PO w base v0 o a c wr v l) : base ≤ wr.heap.size ∧ Below base w wr := ⟨by have := h.grew.off.size; have := h.lo; omega, h.grew.off.below h.lo (fun i e => (h.own0 i e).1)⟩
theorem PO.reads {w wr : World} {base : Nat} {v0 : Value} {o : OpS} {a : Option Addr} {c : Nat} {v : Value} {l : List Nat} (h : PO w base v0 o a c wr v l) : wr.cell? ⟨w.heap.size, 0, none⟩ = some (.int .i64 o.kind) ∧ wr.cell? ⟨w.heap.size, 1, none⟩ = some (.string o.name) ∧ wr.cell? ⟨w.heap.size, 2, none⟩ = some (.string o.new) ∧ wr.cell? ⟨w.heap.size, 3, none⟩ = some (.int .i64 o.at_) ∧ wr.cell? ⟨w.heap.size, 4, none⟩ = some (.slice a o.bytes.length c) :=
  ⟨by rw [cell_of h.box]; rfl, by rw [cell_of h.box]; rfl, by rw [cell_of h.box]; rfl, by rw [cell_of h.box]; rfl, by rw [cell_of h.box]; rfl⟩

set_option maxRecDepth 20000 in
set_option maxHeartbeats 4000000 in
theorem putOp_any (w : World) (base : Nat) (v : Value) (l : List Nat) (o : OpS) (a : Option Addr) (c : Nat) (hown : w.ownsRow base 5 1 v l.length (cells l)) (hb : base ≤ w.heap.size) (hsay : sayB o = true) (hm : ∀ W, Below base w W → Row W a o.bytes) (hz : l.length ≤ 1000000) :
    Calls Try.prog 45 #[v, opv o a c] w fun e w' => More w base v (l ++ encOp o) e w' := by
  obtain ⟨i0, hi, hz0, hz1, hz2⟩ := info_parts Try.info5
  have HI : Hid _ := hi
  have HO : Hid (w.ownsRow base 5 1 v l.length (cells l)) := hown
  have HM : Hid (∀ W, Below base w W → Row W a o.bytes) := hm
  obtain ⟨hn, h4, hkk⟩ := say_is hsay
  have hns := name_size hn
  have hks : o.kind.toNat < 5 ∧ (o.kind.toNat : Int) = o.kind := by rcases hkk with h | h | h | h <;> omega
  have HP1 : Hid (∀ w1 g1 c1, w1.ownsRow base 5 1 (.slice (some ⟨g1, 0, none⟩) (l.length + 1) c1) (l.length + 1) (cells l ++ [.int .u8 o.kind]) → ((w.alloc (opc o a c)).alloc (.cells #[.int .u8 o.kind] 5)).grownBy w1 v.ownBlock → (v.ownBlock = some g1 ∨ g1 = w.heap.size + 1 + 1) → PO w base v o a c w1 (.slice (some ⟨g1, 0, none⟩) (l.length + 1) c1) (l ++ [o.kind.toNat])) := fun w1 g1 c1 h1 h2 h3 => by
    have hb2 : Below w.heap.size w ((w.alloc (opc o a c)).alloc (.cells #[.int .u8 o.kind] 5)) := ((Below.refl _ w).alloc (Nat.le_refl _) _).alloc (by simp) _
    have hlt : ∀ k, v.ownBlock = some k → base ≤ k ∧ k < w.heap.size := HO.out.lt
    have hof : Off (fun k => v.ownBlock = some k) ((w.alloc (opc o a c)).alloc (.cells #[.int .u8 o.kind] 5)) w1 := (Off.refl _ _).grown h2 (fun _ e => .inr e)
    refine ⟨hof.at (by rw [Below.heap_alloc _ _ _ (by simp)]; exact heap_alloc_new w _) (fun e => by have := (hlt _ e).2; omega), ?_, grew_lies hb2 h2 h3 (by simp), fun k e => ?_, hb, hlt⟩
    · rw [show o.kind = ((o.kind.toNat : Nat) : Int) from hks.2.symm] at h1
      exact own_one h1 rfl
    · cases e
      rcases h3 with h3 | h3
      · have := (hlt _ h3).2; show g1 ≠ _; omega
      · show g1 ≠ _; omega
  obtain ⟨k, n, m, t, b⟩ := o
  simp only [opv, opc] at *
  have hl2 : ∀ x : Nat, (l ++ [x] ++ encName n).length ≤ 1000100 := fun x => by simp [encName, nbytes_length]; omega
  rcases hkk with ⟨rfl, h5, h6⟩ | ⟨rfl, h5, h6, h7⟩ | ⟨rfl, h5, h6, h7⟩ | ⟨rfl, h5, h6, h7⟩
  · subst h6
    have HE : Hid (l ++ encOp ⟨1, n, m, 0, b⟩ = l ++ [Int.toNat 1] ++ encName n ++ encBytes b) := by show _ = _; simp [encOp, encTail]
    go_enter Try.func45, Try.ntmps45
    go_wp2_with (first | (at_builtin; go_must (refine wpList_append_lies _ rfl _ _ 35 rfl base 5 i0 (.int .u8 0) 1 1 Try.underlying35 HI.out hz0 hz1 hz2 rfl (by decide) v l.length (cells l) rfl ((HO.out.alloc _).alloc _) ⟨w.heap.size + 1, 0, none⟩ 1 1 [.int .u8 1] rfl rfl (World.news_of_block (second_new w _ _)) (by intro u hu; simp at hu; subst hu; rfl) (by decide) (by unfold maxLen; omega) (by omega) (by simp; omega) (w.heap.size + 1 + 1) (by simp) ?_); intro g1 c1 w1 hown1 hgrow1 hat1 hlt1; have hp1 := HP1.out w1 g1 c1 hown1 hgrow1 hat1; obtain ⟨r10, r11, r12, r13, r14⟩ := hp1.reads; have HP1b : Hid _ := hp1; clear hown1 hgrow1 hat1 hlt1 hp1) | (go_at_call 34; refine (putBytes_any w2 base _ _ a c b HP2.out.row HP2.out.size.1 (fun W hW => HM.out W (HP2.out.size.2.trans hW)) (by omega) (by have := hl2 (Int.toNat 1); omega)).mono ?_; rintro e w3 ⟨v3, rfl, hq3⟩; have hp3 := HP2.out.step hq3.out.1 hq3.out.2; have HP3 : Hid _ := hp3; clear hq3 hp3) | (go_at_call 33; refine (putName_any w1 base _ (l ++ [_]) n HP1b.out.row HP1b.out.size.1 (by omega) (by rw [List.length_append]; simp; omega)).mono ?_; rintro e w2 ⟨v2, rfl, hq2⟩; have hp2 := HP1b.out.step hq2.out.1 hq2.out.2; obtain ⟨r20, r21, r22, r23, r24⟩ := hp2.reads; have HP2 : Hid _ := hp2; clear hq2 hp2))
    go_ret
    refine ⟨_, rfl, ?_, HP3.out.grew⟩
    have ho := HP3.out.row
    rw [← HE.out] at ho
    exact ho
  · obtain ⟨t0, rfl⟩ : ∃ t0 : Nat, t = (t0 : Int) := ⟨t.toNat, by omega⟩
    have HE : Hid (l ++ encOp ⟨2, n, m, (t0 : Int), b⟩ = l ++ [Int.toNat 2] ++ encName n ++ be t0 2 ++ encBytes b) := by show _ = _; simp [encOp, encTail]
    go_enter Try.func45, Try.ntmps45
    go_wp2_with (first | (at_builtin; go_must (refine wpList_append_lies _ rfl _ _ 35 rfl base 5 i0 (.int .u8 0) 1 1 Try.underlying35 HI.out hz0 hz1 hz2 rfl (by decide) v l.length (cells l) rfl ((HO.out.alloc _).alloc _) ⟨w.heap.size + 1, 0, none⟩ 1 1 [.int .u8 2] rfl rfl (World.news_of_block (second_new w _ _)) (by intro u hu; simp at hu; subst hu; rfl) (by decide) (by unfold maxLen; omega) (by omega) (by simp; omega) (w.heap.size + 1 + 1) (by simp) ?_); intro g1 c1 w1 hown1 hgrow1 hat1 hlt1; have hp1 := HP1.out w1 g1 c1 hown1 hgrow1 hat1; obtain ⟨r10, r11, r12, r13, r14⟩ := hp1.reads; have HP1b : Hid _ := hp1; clear hown1 hgrow1 hat1 hlt1 hp1) | (go_at_call 32; refine (fput16_any w2 base _ _ t0 HP2.out.row HP2.out.size.1 (by omega) (by have := hl2 (Int.toNat 2); omega)).mono ?_; rintro e w3 ⟨v3, rfl, hq3⟩; have hp3 := HP2.out.step hq3.out.1 hq3.out.2; obtain ⟨r30, r31, r32, r33, r34⟩ := hp3.reads; have HP3 : Hid _ := hp3; clear hq3 hp3) | (go_at_call 34; refine (putBytes_any w3 base _ _ a c b HP3.out.row HP3.out.size.1 (fun W hW => HM.out W (HP3.out.size.2.trans hW)) (by omega) (by have := hl2 (Int.toNat 2); rw [List.length_append, be_length]; omega)).mono ?_; rintro e w4 ⟨v4, rfl, hq4⟩; have hp4 := HP3.out.step hq4.out.1 hq4.out.2; have HP4 : Hid _ := hp4; clear hq4 hp4) | (go_at_call 33; refine (putName_any w1 base _ (l ++ [_]) n HP1b.out.row HP1b.out.size.1 (by omega) (by rw [List.length_append]; simp; omega)).mono ?_; rintro e w2 ⟨v2, rfl, hq2⟩; have hp2 := HP1b.out.step hq2.out.1 hq2.out.2; obtain ⟨r20, r21, r22, r23, r24⟩ := hp2.reads; have HP2 : Hid _ := hp2; clear hq2 hp2))
    go_ret
    refine ⟨_, rfl, ?_, HP4.out.grew⟩
    have ho := HP4.out.row
    rw [← HE.out] at ho
    exact ho
  · have hms := name_size h5
    subst h6
    obtain rfl : b = [] := List.eq_nil_of_length_eq_zero h7
    clear h7
    have HE : Hid (l ++ encOp ⟨3, n, m, 0, []⟩ = l ++ [Int.toNat 3] ++ encName n ++ encName m) := by show _ = _; simp [encOp, encTail]
    go_enter Try.func45, Try.ntmps45
    go_wp2_with (first | (at_builtin; go_must (refine wpList_append_lies _ rfl _ _ 35 rfl base 5 i0 (.int .u8 0) 1 1 Try.underlying35 HI.out hz0 hz1 hz2 rfl (by decide) v l.length (cells l) rfl ((HO.out.alloc _).alloc _) ⟨w.heap.size + 1, 0, none⟩ 1 1 [.int .u8 3] rfl rfl (World.news_of_block (second_new w _ _)) (by intro u hu; simp at hu; subst hu; rfl) (by decide) (by unfold maxLen; omega) (by omega) (by simp; omega) (w.heap.size + 1 + 1) (by simp) ?_); intro g1 c1 w1 hown1 hgrow1 hat1 hlt1; have hp1 := HP1.out w1 g1 c1 hown1 hgrow1 hat1; obtain ⟨r10, r11, r12, r13, r14⟩ := hp1.reads; have HP1b : Hid _ := hp1; clear hown1 hgrow1 hat1 hlt1 hp1) | (go_at_call 33; refine (putName_any w2 base _ _ m HP2.out.row HP2.out.size.1 (by omega) (by have := hl2 (Int.toNat 3); omega)).mono ?_; rintro e w3 ⟨v3, rfl, hq3⟩; have hp3 := HP2.out.step hq3.out.1 hq3.out.2; have HP3 : Hid _ := hp3; clear hq3 hp3) | (go_at_call 33; refine (putName_any w1 base _ (l ++ [_]) n HP1b.out.row HP1b.out.size.1 (by omega) (by rw [List.length_append]; simp; omega)).mono ?_; rintro e w2 ⟨v2, rfl, hq2⟩; have hp2 := HP1b.out.step hq2.out.1 hq2.out.2; obtain ⟨r20, r21, r22, r23, r24⟩ := hp2.reads; have HP2 : Hid _ := hp2; clear hq2 hp2))
    go_ret
    refine ⟨_, rfl, ?_, HP3.out.grew⟩
    have ho := HP3.out.row
    rw [← HE.out] at ho
    exact ho
  · subst h6
    obtain rfl : b = [] := List.eq_nil_of_length_eq_zero h7
    clear h7
    have HE : Hid (l ++ encOp ⟨4, n, m, 0, []⟩ = l ++ [Int.toNat 4] ++ encName n) := by show _ = _; simp [encOp, encTail]
    go_enter Try.func45, Try.ntmps45
    go_wp2_with (first | (at_builtin; go_must (refine wpList_append_lies _ rfl _ _ 35 rfl base 5 i0 (.int .u8 0) 1 1 Try.underlying35 HI.out hz0 hz1 hz2 rfl (by decide) v l.length (cells l) rfl ((HO.out.alloc _).alloc _) ⟨w.heap.size + 1, 0, none⟩ 1 1 [.int .u8 4] rfl rfl (World.news_of_block (second_new w _ _)) (by intro u hu; simp at hu; subst hu; rfl) (by decide) (by unfold maxLen; omega) (by omega) (by simp; omega) (w.heap.size + 1 + 1) (by simp) ?_); intro g1 c1 w1 hown1 hgrow1 hat1 hlt1; have hp1 := HP1.out w1 g1 c1 hown1 hgrow1 hat1; obtain ⟨r10, r11, r12, r13, r14⟩ := hp1.reads; have HP1b : Hid _ := hp1; clear hown1 hgrow1 hat1 hlt1 hp1) | (go_at_call 33; refine (putName_any w1 base _ (l ++ [_]) n HP1b.out.row HP1b.out.size.1 (by omega) (by rw [List.length_append]; simp; omega)).mono ?_; rintro e w2 ⟨v2, rfl, hq2⟩; have hp2 := HP1b.out.step hq2.out.1 hq2.out.2; obtain ⟨r20, r21, r22, r23, r24⟩ := hp2.reads; have HP2 : Hid _ := hp2; clear hq2 hp2))
    go_ret
    refine ⟨_, rfl, ?_, HP2.out.grew⟩
    have ho := HP2.out.row
    rw [← HE.out] at ho
    exact ho
end Go.Proofs.Ytfocejmfmnijpaa
