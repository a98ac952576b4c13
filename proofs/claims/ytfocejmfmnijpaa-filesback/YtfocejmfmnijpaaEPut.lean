/- The bytes of files and of operations; the walks of put16, putName and putBytes. -/
import Derived.Test.YtfocejmfmnijpaaOPut
import Derived.Lib.AppendStr
import Derived.Deep.AppendSrc
namespace Go.Proofs.Ytfocejmfmnijpaa
open Go.RowKit

/-- A text's bytes. -/
def nbytes (s : ByteArray) : List Nat := s.data.toList.map UInt8.toNat
theorem nbytes_length (s : ByteArray) : (nbytes s).length = s.size := by simp [nbytes]
theorem nbytes_byte (s : ByteArray) : ∀ x ∈ nbytes s, x < 256 := by
  intro x hx
  obtain ⟨u, _, rfl⟩ := List.mem_map.1 hx
  exact u.toNat_lt
theorem str_cells (s : ByteArray) : Lib.strCells s = cells (nbytes s) := by
  unfold Lib.strCells cells nbytes
  simp

/-- A name's bytes, bytes behind their number, a file's. -/
def encName (s : ByteArray) : List Nat := s.size :: nbytes s
def encBytes (b : List Nat) : List Nat := be b.length 2 ++ b

theorem own_more {w : World} {base n k : Nat} {v : Value} {l m : List Nat} (h : w.ownsRow base 5 1 v (n + k) (cells l ++ cells m)) (hn : n + k = (l ++ m).length) : w.ownsRow base 5 1 v (l ++ m).length (cells (l ++ m)) := by
  rw [cells_append, ← hn]; exact h

/-- bytes that the call owns become more: nothing else has turned. -/
structure Grew (w w' : World) (v v' : Value) : Prop where
  off : Off (fun k => v.ownBlock = some k) w w'
  new : ∀ k, v'.ownBlock = some k → v.ownBlock = some k ∨ w.heap.size ≤ k
theorem Grew.trans {a b c : World} {u v x : Value} (h : Grew a b u v) (k : Grew b c v x) : Grew a c u x :=
  ⟨h.off.trans k.off (fun i hi t => (h.new i t).elim id (fun hge => by omega)), fun i t => (k.new i t).elim (h.new i) (fun hge => .inr (Nat.le_trans h.off.size hge))⟩
theorem Grew.ahead {a b c : World} {u v : Value} (h : Below a.heap.size a b) (k : Grew b c u v) : Grew a c u v :=
  ⟨(Off.of_below (S := fun i => u.ownBlock = some i) h).trans k.off (fun _ _ t => t), fun i t => (k.new i t).elim .inl (fun hge => .inr (Nat.le_trans h.size hge))⟩
theorem Grew.refl (w : World) (v : Value) : Grew w w v v := ⟨Off.refl _ w, fun _ t => .inl t⟩
theorem Grew.below {w w' : World} {v v' : Value} {base n : Nat} {xs : List Value} (h : Grew w w' v v') (hown : w.ownsRow base 5 1 v n xs) (hb : base ≤ w.heap.size) : Below base w w' := h.off.below hb (own_ge hown)
theorem grew_lies {w w1 w' : World} {v : Value} {g n cap H : Nat} (hb : Below w.heap.size w w1) (hg : w1.grownBy w' v.ownBlock) (hat : v.ownBlock = some g ∨ g = H) (hH : w1.heap.size = H) : Grew w w' v (.slice (some ⟨g, 0, none⟩) n cap) :=
  ⟨(Off.of_below (S := fun i => v.ownBlock = some i) hb).trans ((Off.refl (fun i => v.ownBlock = some i) w1).grown hg (fun _ e => .inr e)) (fun _ _ t => t), fun k e => by
    cases e
    rcases hat with h | h
    · exact .inl h
    · exact .inr (by show _ ≤ g; have := hb.size; omega)⟩

def More (w : World) (base : Nat) (v : Value) (l : List Nat) (e : Ending) (w' : World) : Prop := ∃ v', e = .returned v' ∧ Hid (w'.ownsRow base 5 1 v' l.length (cells l) ∧ Grew w w' v v')

set_option maxRecDepth 20000 in
set_option maxHeartbeats 2000000 in
theorem fput16_any (w : World) (base : Nat) (v : Value) (l : List Nat) (x : Nat) (hown : w.ownsRow base 5 1 v l.length (cells l)) (hb : base ≤ w.heap.size) (hx : x < 65536) (hz : l.length ≤ 140737488351000) :
    Calls Try.prog 32 #[v, .int .i64 x] w fun e w' => More w base v (l ++ be x 2) e w' := by
  obtain ⟨i0, hi, hz0, hz1, hz2⟩ := info_parts Try.info5
  have HI : Hid _ := hi
  have HO : Hid (w.ownsRow base 5 1 v l.length (cells l)) := hown
  have HP : Calls Try.prog 61 #[.slice none 0 0, .int .u16 x] w fun e w' => e = .returned (.slice (some ⟨w.heap.size, 0, none⟩) 2 2) ∧ Bs w' w.heap.size (be x 2) ∧ Below w.heap.size w w' := by
    have := put16_any none 0 [] x w ⟨by simp, by simp, fun h => absurd h (by simp)⟩ (by simp) hx
    unfold Puts at this
    rw [List.nil_append, be_length] at this
    exact this
  clear hi hown
  go_enter Try.func32, Try.ntmps32
  go_wp2_with (first | (go_at_call 61; refine HP.mono ?_; rintro e w1 ⟨rfl, hbs, hbw⟩; have HBS : Hid (Bs w1 w.heap.size (be x 2) ∧ Below w.heap.size w w1) := ⟨hbs, hbw⟩; clear hbs hbw) | (at_builtin; go_must (refine wpList_append_lies _ rfl _ _ 35 rfl base 5 i0 (.int .u8 0) 1 1 Try.underlying35 HI.out hz0 hz1 hz2 rfl (by decide) v l.length (cells l) rfl ((Off.of_below (S := fun _ => False) HBS.out.2).owns HO.out (fun _ _ => id)) ⟨w.heap.size, 0, none⟩ 2 2 (cells (be x 2)) rfl (by rw [cells_length, be_length]) (row_cells HBS.out.1.row _ rfl) (one_cell _) (by decide) (by unfold maxLen; omega) (by omega) (by have := HBS.out.2.size; omega) w1.heap.size rfl ?_); intro g cap w2 hown2 hgrow2 hat2 hlt2))
  go_ret
  exact ⟨_, rfl, own_more hown2 (by rw [List.length_append, be_length]), grew_lies HBS.out.2 hgrow2 hat2 rfl⟩

theorem own_one {w : World} {base n : Nat} {v : Value} {l : List Nat} {x : Nat} (h : w.ownsRow base 5 1 v (n + 1) (cells l ++ [Value.int .u8 (x : Nat)])) (hn : n = l.length) : w.ownsRow base 5 1 v (l ++ [x]).length (cells (l ++ [x])) := by
  rw [cells_append, cells_one, List.length_append, ← hn]; exact h

/-- append of a text: where the new slice lies. -/
theorem run_append_str_lies (w : World) (ty : TypeId) (base g n cap : Nat) (xs : List Value) (hown : w.ownsRow base 5 1 (.slice (some ⟨g, 0, none⟩) n cap) n xs) (s : ByteArray) (hz : n + s.size ≤ 140737488355328) (hbase : base ≤ w.heap.size) :
    ∃ g' cap' w', (Builtin.append_ #[35, 9] ty #[.slice (some ⟨g, 0, none⟩) n cap, .string s]).run Try.prog w = .ok (.slice (some ⟨g', 0, none⟩) (n + s.size) cap') w' ∧ w'.ownsRow base 5 1 (.slice (some ⟨g', 0, none⟩) (n + s.size) cap') (n + s.size) (xs ++ Lib.strCells s) ∧ w.grownBy w' (some g) ∧ (some g = some g' ∨ g' = w.heap.size) := by
  obtain ⟨i0, hi, hz0, hz1, hz2⟩ := info_parts Try.info5
  obtain ⟨v', w', hr, h2, h3, _⟩ := Lib.run_append_own_string (P := Try.prog) w base 35 9 ty 5 i0 Try.underlying35 Try.underlying9 hi hz0 hz1 hz2 _ n xs hown s (by unfold maxLen; omega) hz hbase
  rcases hown.2 with ⟨h, _⟩ | ⟨g1, c1, cur, hv, hbg, hg, hnc, hcm, hcs, htake⟩
  · cases h
  · cases hv
    by_cases hroom : n + s.size ≤ cap
    · have hr2 := Lib.run_append_room_string (P := Try.prog) w 35 9 ty 5 i0 Try.underlying35 Try.underlying9 hi hz1 g n cap cur hg s hroom (by omega)
      rw [hr] at hr2
      simp only [Result.ok.injEq] at hr2
      obtain ⟨rfl, rfl⟩ := hr2
      exact ⟨g, cap, _, hr, h2, h3, .inl rfl⟩
    · have hxl : xs.length = n := by simpa using hown.1
      have hr2 := Lib.run_append_grow_string (P := Try.prog) w 35 9 ty 5 i0 (.int .u8 0) Try.underlying35 Try.underlying9 hi hz0 ⟨g, 0, none⟩ n cap xs (by rw [hz1]; simpa using hxl) (hown.cells (g := g) rfl) s (by omega) (by omega) (by rw [hz2]; exact growslice_fits (by omega) (by omega))
      rw [hr] at hr2
      simp only [Result.ok.injEq] at hr2
      obtain ⟨rfl, rfl⟩ := hr2
      exact ⟨w.heap.size, _, _, hr, h2, h3, .inr rfl⟩
theorem wpList_append_str {ops : Array Oper} {rest : List Oper} {o : Oper} {a : Act} {w : World} {Q : Exit → Act → World → Prop} (hgd : o.guard = none) (sl x : Operand)
    (ho : o.op = .call { callee := .builtin .append, args := #[sl, x], argTypes := #[35, 9] }) (base g n cap : Nat) (xs : List Value) (hs : a.eval sl = .slice (some ⟨g, 0, none⟩) n cap) (hown : w.ownsRow base 5 1 (.slice (some ⟨g, 0, none⟩) n cap) n xs) (s : ByteArray) (hx : a.eval x = .string s) (hz : n + s.size ≤ 140737488355328) (hbase : base ≤ w.heap.size)
    (h : ∀ g' cap' w', w'.ownsRow base 5 1 (.slice (some ⟨g', 0, none⟩) (n + s.size) cap') (n + s.size) (xs ++ Lib.strCells s) → w.grownBy w' (some g) → (some g = some g' ∨ g' = w.heap.size) → wpList Try.prog ops Q rest (a.put o.dst (.slice (some ⟨g', 0, none⟩) (n + s.size) cap')) w') : wpList Try.prog ops Q (o :: rest) a w := by
  refine wpList_plain hgd fun K hK => ?_
  obtain ⟨g', cap', w', hr, h2, h3, h4⟩ := run_append_str_lies w o.type base g n cap xs hown s hz hbase
  unfold Oper.wp execOp
  simp only [ho, resolve, invoke, builtin, Sem.run_bind, Sem.run_pure, Result.andThen_ok, List.map_toArray, List.map_cons, List.map_nil, hs, hx, hr]
  exact hK _ _ (h g' cap' w' h2 h3 h4)

theorem name_end {l : List Nat} {s : ByteArray} {w : World} {base : Nat} {v : Value} (h : w.ownsRow base 5 1 v (l.length + 1 + s.size) (cells l ++ [Value.int .u8 (s.size : Nat)] ++ Lib.strCells s)) : w.ownsRow base 5 1 v (l ++ encName s).length (cells (l ++ encName s)) := by
  rw [str_cells, ← cells_one, ← cells_append, ← cells_append] at h
  have e : l ++ [s.size] ++ nbytes s = l ++ encName s := by simp [encName]
  rw [e] at h
  rw [show (l ++ encName s).length = l.length + 1 + s.size by simp [encName, nbytes_length]; omega]
  exact h

set_option maxRecDepth 20000 in
set_option maxHeartbeats 2000000 in
theorem putName_any (w : World) (base : Nat) (v : Value) (l : List Nat) (s : ByteArray) (hown : w.ownsRow base 5 1 v l.length (cells l)) (hb : base ≤ w.heap.size) (hx : s.size < 256) (hz : l.length ≤ 140737488351000) :
    Calls Try.prog 33 #[v, .string s] w fun e w' => More w base v (l ++ encName s) e w' := by
  obtain ⟨i0, hi, hz0, hz1, hz2⟩ := info_parts Try.info5
  have HI : Hid _ := hi
  have HO : Hid (w.ownsRow base 5 1 v l.length (cells l)) := hown
  clear hi hown
  go_enter Try.func33, Try.ntmps33
  go_wp2_with (at_builtin; first | (refine wpList_append_lies _ rfl _ _ 35 rfl base 5 i0 (.int .u8 0) 1 1 Try.underlying35 HI.out hz0 hz1 hz2 rfl (by decide) v l.length (cells l) rfl (HO.out.alloc _) ⟨w.heap.size, 0, none⟩ 1 1 [.int .u8 (s.size : Nat)] rfl rfl (cell_one_new _ _ _) (by intro u hu; simp at hu; subst hu; rfl) (by decide) (by unfold maxLen; omega) (by omega) (by simp; omega) (w.heap.size + 1) (by simp) ?_; intro g1 c1 w1 hown1 hgrow1 hat1 hlt1; have hs1 := hgrow1.size; have H1 : Hid (w1.ownsRow base 5 1 (.slice (some ⟨g1, 0, none⟩) (l.length + 1) c1) (l.length + 1) (cells l ++ [.int .u8 (s.size : Nat)]) ∧ Grew w w1 v (.slice (some ⟨g1, 0, none⟩) (l.length + 1) c1) ∧ base ≤ w1.heap.size) := ⟨hown1, grew_lies ((Below.refl _ w).alloc (Nat.le_refl _) _) hgrow1 hat1 (by simp), by simp at hs1; omega⟩; clear hown1 hgrow1 hat1 hlt1 hs1) | (refine wpList_append_str rfl _ _ rfl base g1 (l.length + 1) c1 _ rfl H1.out.1 s rfl (by omega) H1.out.2.2 ?_; intro g2 c2 w2 hown2 hgrow2 hat2; have H2 : Hid (w2.ownsRow base 5 1 (.slice (some ⟨g2, 0, none⟩) (l.length + 1 + s.size) c2) (l ++ encName s).length (cells (l ++ encName s)) ∧ Grew w w2 v (.slice (some ⟨g2, 0, none⟩) (l.length + 1 + s.size) c2)) := ⟨name_end hown2, H1.out.2.1.trans (grew_lies (Below.refl _ w1) hgrow2 hat2 rfl)⟩; clear hown2 hgrow2 hat2))
  go_ret
  exact ⟨_, rfl, H2.out⟩

/-- append of no bytes, wherever they lie. -/
theorem wpList_append_nothing {ops : Array Oper} {rest : List Oper} {o : Oper} {a : Act} {w : World} {Q : Exit → Act → World → Prop} (hgd : o.guard = none) (s x : Operand)
    (ho : o.op = .call { callee := .builtin .append, args := #[s, x], argTypes := #[35, 35] }) (base n : Nat) (v : Value) (l : List Nat) (hs : a.eval s = v) (hown : w.ownsRow base 5 1 v n (cells l)) (h0 : 0 < n)
    (src : Option Addr) (c : Nat) (hx : a.eval x = .slice src 0 c) (h : wpList Try.prog ops Q rest (a.put o.dst v) w) : wpList Try.prog ops Q (o :: rest) a w := by
  refine wpList_plain hgd fun K hK => ?_
  obtain ⟨i0, hi, hz0, hz1, hz2⟩ := info_parts Try.info5
  obtain ⟨g, cap, rfl, _, _⟩ := hown.form h0
  obtain ⟨a', c', hv, hle, _⟩ := own_form hown
  cases hv
  have hsrc : Src Try.prog i0.size 35 (.slice src 0 c) 0 [] w := by
    cases src with
    | none => exact Src.ofNil _ Try.underlying35 c
    | some ad => exact Src.ofSlice _ Try.underlying35 ad 0 c [] (by simp) (by simp) (by simp)
  have happ := run_append_room_src w 35 35 o.type 5 i0 Try.underlying35 hi g 0 n cap (.slice src 0 c) 0 [] hsrc
  have happ := happ (by omega) (by simp) (by simp)
  rw [Nat.add_zero, World.setCells] at happ
  unfold Oper.wp
  simp [execOp, ho, resolve, invoke, builtin, hs, hx, happ, Result.andThen]
  exact hK _ _ h

set_option maxRecDepth 20000 in
set_option maxHeartbeats 2000000 in
theorem putBytes_any (w : World) (base : Nat) (v : Value) (l : List Nat) (a : Option Addr) (c : Nat) (m : List Nat) (hown : w.ownsRow base 5 1 v l.length (cells l)) (hb : base ≤ w.heap.size) (hm : ∀ W, Below base w W → Row W a m) (hx : m.length < 65536) (hz : l.length ≤ 140737488000000) :
    Calls Try.prog 34 #[v, .slice a m.length c] w fun e w' => More w base v (l ++ encBytes m) e w' := by
  obtain ⟨i0, hi, hz0, hz1, hz2⟩ := info_parts Try.info5
  have HI : Hid _ := hi
  have HM : Hid (∀ W, Below base w W → Row W a m) := hm
  have HO : Hid (w.ownsRow base 5 1 v l.length (cells l)) := hown
  have HP := fput16_any w base v l m.length hown hb hx (by omega)
  clear hi hown hm
  rcases Nat.eq_zero_or_pos m.length with h0 | h0
  · obtain rfl : m = [] := List.eq_nil_of_length_eq_zero h0
    have HP0 : Calls Try.prog 32 #[v, .int .i64 0] w fun e w' => More w base v (l ++ be 0 2) e w' := HP
    go_enter Try.func34, Try.ntmps34
    go_wp2_with (first | (go_at_call 32; refine HP0.mono ?_; rintro e w1 ⟨v1, rfl, hq⟩) | (at_builtin; go_must (refine wpList_append_nothing rfl _ _ rfl base _ v1 _ rfl hq.out.1 (by rw [List.length_append, be_length]; omega) a c rfl ?_)))
    go_ret
    exact ⟨v1, rfl, by rw [encBytes, List.append_nil]; exact hq.out.1, hq.out.2⟩
  · obtain ⟨b, off, rfl, _⟩ := (HM.out w (Below.refl _ _)).2.2 h0
    go_enter Try.func34, Try.ntmps34
    go_wp2_with (first | (go_at_call 32; refine HP.mono ?_; rintro e w1 ⟨v1, rfl, hq⟩; have hs1 := hq.out.2.off.size) | (at_builtin; go_must (refine wpList_append_lies _ rfl _ _ 35 rfl base 5 i0 (.int .u8 0) 1 1 Try.underlying35 HI.out hz0 hz1 hz2 rfl (by decide) v1 (l ++ be m.length 2).length (cells (l ++ be m.length 2)) rfl hq.out.1 ⟨b, off, none⟩ m.length c (cells m) rfl (by rw [cells_length, Nat.mul_one]) (row_cells (HM.out w1 (hq.out.2.below HO.out hb)) _ rfl) (one_cell _) h0 (by rw [List.length_append, be_length]; unfold maxLen; omega) (by rw [List.length_append, be_length]; omega) (by omega) w1.heap.size rfl ?_); intro g2 c2 w2 hown2 hgrow2 hat2 hlt2))
    go_ret
    have := own_more hown2 (by simp; omega)
    rw [List.append_assoc] at this
    have hg2 : Grew w w2 v (.slice (some ⟨g2, 0, none⟩) ((l ++ be m.length 2).length + m.length) c2) := hq.out.2.trans (grew_lies (Below.refl _ w1) hgrow2 hat2 rfl)
    rw [show (l ++ be m.length 2).length = l.length + (be m.length 2).length from List.length_append] at this hg2
    exact ⟨_, rfl, this, hg2⟩
end Go.Proofs.Ytfocejmfmnijpaa
