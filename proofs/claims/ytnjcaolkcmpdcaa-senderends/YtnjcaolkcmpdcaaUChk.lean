/- sender.Check. -/
import Derived.Test.YtnjcaolkcmpdcaaULast
import Derived.Deep.MidRow
namespace Go.Proofs.Ytnjcaolkcmpdcaa
open Go.RowKit
set_option linter.unusedVariables false
/-- a session's cells. -/
abbrev sncells (s : Sn) (p : Pt) : List Value := [.int .i64 s.bgn.src, .int .u32 (s.bgn.ses : Nat), .slice p.ab s.bgn.blk.length p.cb, .int .i64 s.bgn.wai, .int .i64 s.bgn.tri, .int .i64 s.sta, .slice p.ag s.got.length p.cg, .int .i64 s.lst.knd, .int .i64 s.lst.src, .int .u32 (s.lst.ses : Nat), .int .u32 (s.lst.ser : Nat), .int .u32 (s.lst.cks : Nat), .int .i64 s.lst.off, .int .i64 s.lst.tot, .int .i64 s.lst.low, .int .i64 s.lst.upp, .int .i64 s.lst.rea, .bool s.lst.chk, .slice p.ad s.lst.dat.length p.cd, .slice p.ac s.lst.cls.length p.cc, .int .i64 s.due, .int .i64 s.ask, .slice p.an s.sen.length p.cn, .int .i64 s.rea]
theorem snv_cells (s : Sn) (p : Pt) : snv s p = .agg (sncells s p).toArray := rfl
theorem sn_range {W : World} {b : Nat} {s : Sn} {p : Pt} (h : W.heap[b]? = some (snc s p)) : W.rangeAt b 0 (sncells s p) := by
  intro j v hv
  rw [Nat.zero_add, cell_of h]
  rw [← List.getElem?_toArray] at hv
  exact hv
theorem wpList_load_want {P : Program} {ops : Array Oper} {rest : List Oper} {op : Oper} {a : Act} {w : World} {Q : Exit → Act → World → Prop} (hw : Region.wanted op (yielded ops a.tmps) = true) (ty : TypeId) (x : Operand) (ho : op.op = .load ty x)
    (b o : Nat) (hx : a.eval x = .pointer (some ⟨b, o, none⟩)) (cs : List Value) (d : TypeDesc) (hc : w.rangeAt b o cs)
    (hu : P.underlying ty = some d) (hd : d.isRow = true) (hi : (P.info? ty).map (·.size) = some cs.length)
    (h : wpList P ops Q rest (a.put op.dst (.agg cs.toArray)) w) : wpList P ops Q (op :: rest) a w :=
  BigFrame.wpList_want hw fun _ hK => wp_load_mid ty x ho b o hx cs d hc hu hd hi (hK _ _ h)
/-- may the session be? -/
def okU (s : Sn) : Bool := okB s.bgn && (numsU s && (clsOk s.bgn.blk.length 0 s.got && (lastU s && seenU s)))
/-- what Check answers. -/
def chkU (s : Sn) : Int := if okU s = true then 0 else 240
theorem chkU_ok {s : Sn} (h : okU s = true) : chkU s = 0 := if_pos h
theorem chkU_no {s : Sn} (h : okU s = false) : chkU s = 240 := if_neg (by rw [h]; simp)
set_option maxRecDepth 20000 in
set_option maxHeartbeats 8000000 in
theorem ucheck1 (s : Sn) (p : Pt) (w : World) (hc : CameS w s p) (h1 : okB s.bgn = false) : Calls Try.prog 14 #[snv s p] w fun e w' => e = .returned (.int .i64 240) ∧ Hid (Below w.heap.size w w') := by
  have HB : Hid (Below w.heap.size w (w.alloc (snc s p))) := (Below.refl _ w).alloc (Nat.le_refl _) _
  have HP : Hid ((w.alloc (snc s p)).heap[w.heap.size]? = some (snc s p)) := heap_alloc_new w _
  have HA1 : Hid (∀ W, Below w.heap.size w W → Calls Try.prog 34 #[bgv s.bgn p.ab p.cb] W fun e w' => e = .returned (.bool (okB s.bgn)) ∧ Hid (Below W.heap.size W w')) := fun W hb => start_any s.bgn p.ab p.cb W
  clear hc
  obtain ⟨cs, hcs⟩ : ∃ cs, Hid (cs = sncells s p) := ⟨_, rfl⟩
  have hsz : Hid ((Try.prog.info? 32).map (·.size) = some cs.length) := by show _ = _; rw [show cs.length = 24 by rw [hcs.out]; rfl]; kernel_rfl
  rw [h1] at HA1
  clear h1
  go_enter Try.func14, Try.ntmps14
  go_wp2_with (first | (go_at_call 34; refine (HA1.out _ HB.out).mono ?_; rintro e w1 ⟨rfl, hb1⟩; have hW1 : Hid (Below w.heap.size w w1) := below_of HB.out hb1.out; have hP1 : Hid (w1.heap[w.heap.size]? = some (snc s p)) := (show _ = _ from old_block hb1.out HP.out); have hR1 : Hid (w1.rangeAt w.heap.size 0 cs) := by (rw [hcs.out]; exact sn_range hP1.out)) | (refine wpList_load_want (by rfl) 32 _ rfl w.heap.size 0 (by rfl) cs _ (by first | exact hR5.out | exact hR4.out | exact hR3.out | exact hR2.out | exact hR1.out) Try.underlying32 rfl hsz.out ?_))
  go_ret
  exact ⟨rfl, hW1.out⟩
set_option maxRecDepth 20000 in
set_option maxHeartbeats 8000000 in
theorem ucheck2 (s : Sn) (p : Pt) (w : World) (hc : CameS w s p) (h1 : okB s.bgn = true) (h2 : numsU s = false) : Calls Try.prog 14 #[snv s p] w fun e w' => e = .returned (.int .i64 240) ∧ Hid (Below w.heap.size w w') := by
  have HB : Hid (Below w.heap.size w (w.alloc (snc s p))) := (Below.refl _ w).alloc (Nat.le_refl _) _
  have HP : Hid ((w.alloc (snc s p)).heap[w.heap.size]? = some (snc s p)) := heap_alloc_new w _
  have HA1 : Hid (∀ W, Below w.heap.size w W → Calls Try.prog 34 #[bgv s.bgn p.ab p.cb] W fun e w' => e = .returned (.bool (okB s.bgn)) ∧ Hid (Below W.heap.size W w')) := fun W hb => start_any s.bgn p.ab p.cb W
  have HA2 : Hid (∀ W, Below w.heap.size w W → Calls Try.prog 41 #[snv s p] W fun e w' => e = .returned (.bool (numsU s)) ∧ Hid (Below W.heap.size W w')) := fun W hb => numbers_any s p W
  clear hc
  obtain ⟨cs, hcs⟩ : ∃ cs, Hid (cs = sncells s p) := ⟨_, rfl⟩
  have hsz : Hid ((Try.prog.info? 32).map (·.size) = some cs.length) := by show _ = _; rw [show cs.length = 24 by rw [hcs.out]; rfl]; kernel_rfl
  rw [snv_cells s p, ← hcs.out] at HA2
  rw [h1] at HA1
  rw [h2] at HA2
  clear h1 h2
  go_enter Try.func14, Try.ntmps14
  go_wp2_with (first | (go_at_call 34; refine (HA1.out _ HB.out).mono ?_; rintro e w1 ⟨rfl, hb1⟩; have hW1 : Hid (Below w.heap.size w w1) := below_of HB.out hb1.out; have hP1 : Hid (w1.heap[w.heap.size]? = some (snc s p)) := (show _ = _ from old_block hb1.out HP.out); have hR1 : Hid (w1.rangeAt w.heap.size 0 cs) := by (rw [hcs.out]; exact sn_range hP1.out)) | (go_at_call 41; refine (HA2.out _ hW1.out).mono ?_; rintro e w2 ⟨rfl, hb2⟩; have hW2 : Hid (Below w.heap.size w w2) := below_of hW1.out hb2.out; have hP2 : Hid (w2.heap[w.heap.size]? = some (snc s p)) := (show _ = _ from old_block hb2.out hP1.out); have hR2 : Hid (w2.rangeAt w.heap.size 0 cs) := by (rw [hcs.out]; exact sn_range hP2.out)) | (refine wpList_load_want (by rfl) 32 _ rfl w.heap.size 0 (by rfl) cs _ (by first | exact hR5.out | exact hR4.out | exact hR3.out | exact hR2.out | exact hR1.out) Try.underlying32 rfl hsz.out ?_))
  go_ret
  exact ⟨rfl, hW2.out⟩
set_option maxRecDepth 20000 in
set_option maxHeartbeats 8000000 in
theorem ucheck3 (s : Sn) (p : Pt) (w : World) (hc : CameS w s p) (h1 : okB s.bgn = true) (h2 : numsU s = true) (h3 : clsOk s.bgn.blk.length 0 s.got = false) : Calls Try.prog 14 #[snv s p] w fun e w' => e = .returned (.int .i64 240) ∧ Hid (Below w.heap.size w w') := by
  have HB : Hid (Below w.heap.size w (w.alloc (snc s p))) := (Below.refl _ w).alloc (Nat.le_refl _) _
  have HP : Hid ((w.alloc (snc s p)).heap[w.heap.size]? = some (snc s p)) := heap_alloc_new w _
  have HA1 : Hid (∀ W, Below w.heap.size w W → Calls Try.prog 34 #[bgv s.bgn p.ab p.cb] W fun e w' => e = .returned (.bool (okB s.bgn)) ∧ Hid (Below W.heap.size W w')) := fun W hb => start_any s.bgn p.ab p.cb W
  have HA2 : Hid (∀ W, Below w.heap.size w W → Calls Try.prog 41 #[snv s p] W fun e w' => e = .returned (.bool (numsU s)) ∧ Hid (Below W.heap.size W w')) := fun W hb => numbers_any s p W
  have HA3 : Hid (∀ W, Below w.heap.size w W → Calls Try.prog 42 #[snv s p] W fun e w' => e = .returned (.bool (clsOk s.bgn.blk.length 0 s.got)) ∧ Hid (Below W.heap.size W w')) := fun W hb => rows_any s p W hc.zg hc.zb (hc.got.later hb) hc.gin
  clear hc
  obtain ⟨cs, hcs⟩ : ∃ cs, Hid (cs = sncells s p) := ⟨_, rfl⟩
  have hsz : Hid ((Try.prog.info? 32).map (·.size) = some cs.length) := by show _ = _; rw [show cs.length = 24 by rw [hcs.out]; rfl]; kernel_rfl
  rw [snv_cells s p, ← hcs.out] at HA2 HA3
  rw [h1] at HA1
  rw [h2] at HA2
  rw [h3] at HA3
  clear h1 h2 h3
  go_enter Try.func14, Try.ntmps14
  go_wp2_with (first | (go_at_call 34; refine (HA1.out _ HB.out).mono ?_; rintro e w1 ⟨rfl, hb1⟩; have hW1 : Hid (Below w.heap.size w w1) := below_of HB.out hb1.out; have hP1 : Hid (w1.heap[w.heap.size]? = some (snc s p)) := (show _ = _ from old_block hb1.out HP.out); have hR1 : Hid (w1.rangeAt w.heap.size 0 cs) := by (rw [hcs.out]; exact sn_range hP1.out)) | (go_at_call 41; refine (HA2.out _ hW1.out).mono ?_; rintro e w2 ⟨rfl, hb2⟩; have hW2 : Hid (Below w.heap.size w w2) := below_of hW1.out hb2.out; have hP2 : Hid (w2.heap[w.heap.size]? = some (snc s p)) := (show _ = _ from old_block hb2.out hP1.out); have hR2 : Hid (w2.rangeAt w.heap.size 0 cs) := by (rw [hcs.out]; exact sn_range hP2.out)) | (go_at_call 42; refine (HA3.out _ hW2.out).mono ?_; rintro e w3 ⟨rfl, hb3⟩; have hW3 : Hid (Below w.heap.size w w3) := below_of hW2.out hb3.out; have hP3 : Hid (w3.heap[w.heap.size]? = some (snc s p)) := (show _ = _ from old_block hb3.out hP2.out); have hR3 : Hid (w3.rangeAt w.heap.size 0 cs) := by (rw [hcs.out]; exact sn_range hP3.out)) | (refine wpList_load_want (by rfl) 32 _ rfl w.heap.size 0 (by rfl) cs _ (by first | exact hR5.out | exact hR4.out | exact hR3.out | exact hR2.out | exact hR1.out) Try.underlying32 rfl hsz.out ?_))
  go_ret
  exact ⟨rfl, hW3.out⟩
set_option maxRecDepth 20000 in
set_option maxHeartbeats 8000000 in
theorem ucheck4 (s : Sn) (p : Pt) (w : World) (hc : CameS w s p) (h1 : okB s.bgn = true) (h2 : numsU s = true) (h3 : clsOk s.bgn.blk.length 0 s.got = true) (h4 : lastU s = false) : Calls Try.prog 14 #[snv s p] w fun e w' => e = .returned (.int .i64 240) ∧ Hid (Below w.heap.size w w') := by
  have HB : Hid (Below w.heap.size w (w.alloc (snc s p))) := (Below.refl _ w).alloc (Nat.le_refl _) _
  have HP : Hid ((w.alloc (snc s p)).heap[w.heap.size]? = some (snc s p)) := heap_alloc_new w _
  have HA1 : Hid (∀ W, Below w.heap.size w W → Calls Try.prog 34 #[bgv s.bgn p.ab p.cb] W fun e w' => e = .returned (.bool (okB s.bgn)) ∧ Hid (Below W.heap.size W w')) := fun W hb => start_any s.bgn p.ab p.cb W
  have HA2 : Hid (∀ W, Below w.heap.size w W → Calls Try.prog 41 #[snv s p] W fun e w' => e = .returned (.bool (numsU s)) ∧ Hid (Below W.heap.size W w')) := fun W hb => numbers_any s p W
  have HA3 : Hid (∀ W, Below w.heap.size w W → Calls Try.prog 42 #[snv s p] W fun e w' => e = .returned (.bool (clsOk s.bgn.blk.length 0 s.got)) ∧ Hid (Below W.heap.size W w')) := fun W hb => rows_any s p W hc.zg hc.zb (hc.got.later hb) hc.gin
  have HA4 : Hid (∀ W, Below w.heap.size w W → Calls Try.prog 43 #[snv s p] W fun e w' => e = .returned (.bool (lastU s)) ∧ Hid (Below W.heap.size W w')) := fun W hb => last_any s p W (hc.later hb)
  clear hc
  obtain ⟨cs, hcs⟩ : ∃ cs, Hid (cs = sncells s p) := ⟨_, rfl⟩
  have hsz : Hid ((Try.prog.info? 32).map (·.size) = some cs.length) := by show _ = _; rw [show cs.length = 24 by rw [hcs.out]; rfl]; kernel_rfl
  rw [snv_cells s p, ← hcs.out] at HA2 HA3 HA4
  rw [h1] at HA1
  rw [h2] at HA2
  rw [h3] at HA3
  rw [h4] at HA4
  clear h1 h2 h3 h4
  go_enter Try.func14, Try.ntmps14
  go_wp2_with (first | (go_at_call 34; refine (HA1.out _ HB.out).mono ?_; rintro e w1 ⟨rfl, hb1⟩; have hW1 : Hid (Below w.heap.size w w1) := below_of HB.out hb1.out; have hP1 : Hid (w1.heap[w.heap.size]? = some (snc s p)) := (show _ = _ from old_block hb1.out HP.out); have hR1 : Hid (w1.rangeAt w.heap.size 0 cs) := by (rw [hcs.out]; exact sn_range hP1.out)) | (go_at_call 41; refine (HA2.out _ hW1.out).mono ?_; rintro e w2 ⟨rfl, hb2⟩; have hW2 : Hid (Below w.heap.size w w2) := below_of hW1.out hb2.out; have hP2 : Hid (w2.heap[w.heap.size]? = some (snc s p)) := (show _ = _ from old_block hb2.out hP1.out); have hR2 : Hid (w2.rangeAt w.heap.size 0 cs) := by (rw [hcs.out]; exact sn_range hP2.out)) | (go_at_call 42; refine (HA3.out _ hW2.out).mono ?_; rintro e w3 ⟨rfl, hb3⟩; have hW3 : Hid (Below w.heap.size w w3) := below_of hW2.out hb3.out; have hP3 : Hid (w3.heap[w.heap.size]? = some (snc s p)) := (show _ = _ from old_block hb3.out hP2.out); have hR3 : Hid (w3.rangeAt w.heap.size 0 cs) := by (rw [hcs.out]; exact sn_range hP3.out)) | (go_at_call 43; refine (HA4.out _ hW3.out).mono ?_; rintro e w4 ⟨rfl, hb4⟩; have hW4 : Hid (Below w.heap.size w w4) := below_of hW3.out hb4.out; have hP4 : Hid (w4.heap[w.heap.size]? = some (snc s p)) := (show _ = _ from old_block hb4.out hP3.out); have hR4 : Hid (w4.rangeAt w.heap.size 0 cs) := by (rw [hcs.out]; exact sn_range hP4.out)) | (refine wpList_load_want (by rfl) 32 _ rfl w.heap.size 0 (by rfl) cs _ (by first | exact hR5.out | exact hR4.out | exact hR3.out | exact hR2.out | exact hR1.out) Try.underlying32 rfl hsz.out ?_))
  go_ret
  exact ⟨rfl, hW4.out⟩
set_option maxRecDepth 20000 in
set_option maxHeartbeats 8000000 in
theorem ucheck5 (s : Sn) (p : Pt) (w : World) (hc : CameS w s p) (h1 : okB s.bgn = true) (h2 : numsU s = true) (h3 : clsOk s.bgn.blk.length 0 s.got = true) (h4 : lastU s = true) (h5 : seenU s = false) : Calls Try.prog 14 #[snv s p] w fun e w' => e = .returned (.int .i64 240) ∧ Hid (Below w.heap.size w w') := by
  have HB : Hid (Below w.heap.size w (w.alloc (snc s p))) := (Below.refl _ w).alloc (Nat.le_refl _) _
  have HP : Hid ((w.alloc (snc s p)).heap[w.heap.size]? = some (snc s p)) := heap_alloc_new w _
  have HA1 : Hid (∀ W, Below w.heap.size w W → Calls Try.prog 34 #[bgv s.bgn p.ab p.cb] W fun e w' => e = .returned (.bool (okB s.bgn)) ∧ Hid (Below W.heap.size W w')) := fun W hb => start_any s.bgn p.ab p.cb W
  have HA2 : Hid (∀ W, Below w.heap.size w W → Calls Try.prog 41 #[snv s p] W fun e w' => e = .returned (.bool (numsU s)) ∧ Hid (Below W.heap.size W w')) := fun W hb => numbers_any s p W
  have HA3 : Hid (∀ W, Below w.heap.size w W → Calls Try.prog 42 #[snv s p] W fun e w' => e = .returned (.bool (clsOk s.bgn.blk.length 0 s.got)) ∧ Hid (Below W.heap.size W w')) := fun W hb => rows_any s p W hc.zg hc.zb (hc.got.later hb) hc.gin
  have HA4 : Hid (∀ W, Below w.heap.size w W → Calls Try.prog 43 #[snv s p] W fun e w' => e = .returned (.bool (lastU s)) ∧ Hid (Below W.heap.size W w')) := fun W hb => last_any s p W (hc.later hb)
  have HA5 : Hid (∀ W, Below w.heap.size w W → Calls Try.prog 44 #[snv s p] W fun e w' => e = .returned (.bool (seenU s)) ∧ Hid (Below W.heap.size W w')) := fun W hb => seen_any s p W hc.zn (hc.sen.later hb)
  clear hc
  obtain ⟨cs, hcs⟩ : ∃ cs, Hid (cs = sncells s p) := ⟨_, rfl⟩
  have hsz : Hid ((Try.prog.info? 32).map (·.size) = some cs.length) := by show _ = _; rw [show cs.length = 24 by rw [hcs.out]; rfl]; kernel_rfl
  rw [snv_cells s p, ← hcs.out] at HA2 HA3 HA4 HA5
  rw [h1] at HA1
  rw [h2] at HA2
  rw [h3] at HA3
  rw [h4] at HA4
  rw [h5] at HA5
  clear h1 h2 h3 h4 h5
  go_enter Try.func14, Try.ntmps14
  go_wp2_with (first | (go_at_call 34; refine (HA1.out _ HB.out).mono ?_; rintro e w1 ⟨rfl, hb1⟩; have hW1 : Hid (Below w.heap.size w w1) := below_of HB.out hb1.out; have hP1 : Hid (w1.heap[w.heap.size]? = some (snc s p)) := (show _ = _ from old_block hb1.out HP.out); have hR1 : Hid (w1.rangeAt w.heap.size 0 cs) := by (rw [hcs.out]; exact sn_range hP1.out)) | (go_at_call 41; refine (HA2.out _ hW1.out).mono ?_; rintro e w2 ⟨rfl, hb2⟩; have hW2 : Hid (Below w.heap.size w w2) := below_of hW1.out hb2.out; have hP2 : Hid (w2.heap[w.heap.size]? = some (snc s p)) := (show _ = _ from old_block hb2.out hP1.out); have hR2 : Hid (w2.rangeAt w.heap.size 0 cs) := by (rw [hcs.out]; exact sn_range hP2.out)) | (go_at_call 42; refine (HA3.out _ hW2.out).mono ?_; rintro e w3 ⟨rfl, hb3⟩; have hW3 : Hid (Below w.heap.size w w3) := below_of hW2.out hb3.out; have hP3 : Hid (w3.heap[w.heap.size]? = some (snc s p)) := (show _ = _ from old_block hb3.out hP2.out); have hR3 : Hid (w3.rangeAt w.heap.size 0 cs) := by (rw [hcs.out]; exact sn_range hP3.out)) | (go_at_call 43; refine (HA4.out _ hW3.out).mono ?_; rintro e w4 ⟨rfl, hb4⟩; have hW4 : Hid (Below w.heap.size w w4) := below_of hW3.out hb4.out; have hP4 : Hid (w4.heap[w.heap.size]? = some (snc s p)) := (show _ = _ from old_block hb4.out hP3.out); have hR4 : Hid (w4.rangeAt w.heap.size 0 cs) := by (rw [hcs.out]; exact sn_range hP4.out)) | (go_at_call 44; refine (HA5.out _ hW4.out).mono ?_; rintro e w5 ⟨rfl, hb5⟩; have hW5 : Hid (Below w.heap.size w w5) := below_of hW4.out hb5.out; have hP5 : Hid (w5.heap[w.heap.size]? = some (snc s p)) := (show _ = _ from old_block hb5.out hP4.out); have hR5 : Hid (w5.rangeAt w.heap.size 0 cs) := by (rw [hcs.out]; exact sn_range hP5.out)) | (refine wpList_load_want (by rfl) 32 _ rfl w.heap.size 0 (by rfl) cs _ (by first | exact hR5.out | exact hR4.out | exact hR3.out | exact hR2.out | exact hR1.out) Try.underlying32 rfl hsz.out ?_))
  go_ret
  exact ⟨rfl, hW5.out⟩
set_option maxRecDepth 20000 in
set_option maxHeartbeats 8000000 in
theorem ucheck6 (s : Sn) (p : Pt) (w : World) (hc : CameS w s p) (h1 : okB s.bgn = true) (h2 : numsU s = true) (h3 : clsOk s.bgn.blk.length 0 s.got = true) (h4 : lastU s = true) (h5 : seenU s = true) : Calls Try.prog 14 #[snv s p] w fun e w' => e = .returned (.int .i64 0) ∧ Hid (Below w.heap.size w w') := by
  have HB : Hid (Below w.heap.size w (w.alloc (snc s p))) := (Below.refl _ w).alloc (Nat.le_refl _) _
  have HP : Hid ((w.alloc (snc s p)).heap[w.heap.size]? = some (snc s p)) := heap_alloc_new w _
  have HA1 : Hid (∀ W, Below w.heap.size w W → Calls Try.prog 34 #[bgv s.bgn p.ab p.cb] W fun e w' => e = .returned (.bool (okB s.bgn)) ∧ Hid (Below W.heap.size W w')) := fun W hb => start_any s.bgn p.ab p.cb W
  have HA2 : Hid (∀ W, Below w.heap.size w W → Calls Try.prog 41 #[snv s p] W fun e w' => e = .returned (.bool (numsU s)) ∧ Hid (Below W.heap.size W w')) := fun W hb => numbers_any s p W
  have HA3 : Hid (∀ W, Below w.heap.size w W → Calls Try.prog 42 #[snv s p] W fun e w' => e = .returned (.bool (clsOk s.bgn.blk.length 0 s.got)) ∧ Hid (Below W.heap.size W w')) := fun W hb => rows_any s p W hc.zg hc.zb (hc.got.later hb) hc.gin
  have HA4 : Hid (∀ W, Below w.heap.size w W → Calls Try.prog 43 #[snv s p] W fun e w' => e = .returned (.bool (lastU s)) ∧ Hid (Below W.heap.size W w')) := fun W hb => last_any s p W (hc.later hb)
  have HA5 : Hid (∀ W, Below w.heap.size w W → Calls Try.prog 44 #[snv s p] W fun e w' => e = .returned (.bool (seenU s)) ∧ Hid (Below W.heap.size W w')) := fun W hb => seen_any s p W hc.zn (hc.sen.later hb)
  clear hc
  obtain ⟨cs, hcs⟩ : ∃ cs, Hid (cs = sncells s p) := ⟨_, rfl⟩
  have hsz : Hid ((Try.prog.info? 32).map (·.size) = some cs.length) := by show _ = _; rw [show cs.length = 24 by rw [hcs.out]; rfl]; kernel_rfl
  rw [snv_cells s p, ← hcs.out] at HA2 HA3 HA4 HA5
  rw [h1] at HA1
  rw [h2] at HA2
  rw [h3] at HA3
  rw [h4] at HA4
  rw [h5] at HA5
  clear h1 h2 h3 h4 h5
  go_enter Try.func14, Try.ntmps14
  go_wp2_with (first | (go_at_call 34; refine (HA1.out _ HB.out).mono ?_; rintro e w1 ⟨rfl, hb1⟩; have hW1 : Hid (Below w.heap.size w w1) := below_of HB.out hb1.out; have hP1 : Hid (w1.heap[w.heap.size]? = some (snc s p)) := (show _ = _ from old_block hb1.out HP.out); have hR1 : Hid (w1.rangeAt w.heap.size 0 cs) := by (rw [hcs.out]; exact sn_range hP1.out)) | (go_at_call 41; refine (HA2.out _ hW1.out).mono ?_; rintro e w2 ⟨rfl, hb2⟩; have hW2 : Hid (Below w.heap.size w w2) := below_of hW1.out hb2.out; have hP2 : Hid (w2.heap[w.heap.size]? = some (snc s p)) := (show _ = _ from old_block hb2.out hP1.out); have hR2 : Hid (w2.rangeAt w.heap.size 0 cs) := by (rw [hcs.out]; exact sn_range hP2.out)) | (go_at_call 42; refine (HA3.out _ hW2.out).mono ?_; rintro e w3 ⟨rfl, hb3⟩; have hW3 : Hid (Below w.heap.size w w3) := below_of hW2.out hb3.out; have hP3 : Hid (w3.heap[w.heap.size]? = some (snc s p)) := (show _ = _ from old_block hb3.out hP2.out); have hR3 : Hid (w3.rangeAt w.heap.size 0 cs) := by (rw [hcs.out]; exact sn_range hP3.out)) | (go_at_call 43; refine (HA4.out _ hW3.out).mono ?_; rintro e w4 ⟨rfl, hb4⟩; have hW4 : Hid (Below w.heap.size w w4) := below_of hW3.out hb4.out; have hP4 : Hid (w4.heap[w.heap.size]? = some (snc s p)) := (show _ = _ from old_block hb4.out hP3.out); have hR4 : Hid (w4.rangeAt w.heap.size 0 cs) := by (rw [hcs.out]; exact sn_range hP4.out)) | (go_at_call 44; refine (HA5.out _ hW4.out).mono ?_; rintro e w5 ⟨rfl, hb5⟩; have hW5 : Hid (Below w.heap.size w w5) := below_of hW4.out hb5.out; have hP5 : Hid (w5.heap[w.heap.size]? = some (snc s p)) := (show _ = _ from old_block hb5.out hP4.out); have hR5 : Hid (w5.rangeAt w.heap.size 0 cs) := by (rw [hcs.out]; exact sn_range hP5.out)) | (refine wpList_load_want (by rfl) 32 _ rfl w.heap.size 0 (by rfl) cs _ (by first | exact hR5.out | exact hR4.out | exact hR3.out | exact hR2.out | exact hR1.out) Try.underlying32 rfl hsz.out ?_))
  go_ret
  exact ⟨rfl, hW5.out⟩
theorem ucheck_any (s : Sn) (p : Pt) (w : World) (hc : CameS w s p) : Calls Try.prog 14 #[snv s p] w fun e w' => e = .returned (.int .i64 (chkU s)) ∧ Hid (Below w.heap.size w w') := by
  cases h1 : okB s.bgn with
  | false => rw [chkU_no (by rw [okU, h1]; rfl)]; exact ucheck1 s p w hc h1
  | true =>
  cases h2 : numsU s with
  | false => rw [chkU_no (by rw [okU, h1, h2]; rfl)]; exact ucheck2 s p w hc h1 h2
  | true =>
  cases h3 : clsOk s.bgn.blk.length 0 s.got with
  | false => rw [chkU_no (by rw [okU, h1, h2, h3]; rfl)]; exact ucheck3 s p w hc h1 h2 h3
  | true =>
  cases h4 : lastU s with
  | false => rw [chkU_no (by rw [okU, h1, h2, h3, h4]; rfl)]; exact ucheck4 s p w hc h1 h2 h3 h4
  | true =>
  cases h5 : seenU s with
  | false => rw [chkU_no (by rw [okU, h1, h2, h3, h4, h5]; rfl)]; exact ucheck5 s p w hc h1 h2 h3 h4 h5
  | true => rw [chkU_ok (by rw [okU, h1, h2, h3, h4, h5]; rfl)]; exact ucheck6 s p w hc h1 h2 h3 h4 h5
end Go.Proofs.Ytnjcaolkcmpdcaa
