/- (*turn).putIn: a data segment is put in. -/
import Derived.Test.YthmolodkaboakaaVLet
import Derived.Test.YthmolodkaboakaaVTog
import Derived.Laws.CopyOwn
namespace Go.Proofs.Ythmolodkaboakaa
open Go.RowKit
set_option linter.unusedVariables false
def putB (b : List Nat) (O : Nat) (d : List Nat) : List Nat := b.take O ++ d ++ b.drop (O + d.length)
def putG (s : Tk) (x : Sg) : Tk := { s with byt := putB s.byt x.off.toNat x.dat, got := tog s.got x.off x.dat.length }
def putK (s : Tk) (x : Sg) : Tk := if wholeK (putG s x) = true then { putG s x with sta := 2 } else putG s x
theorem putB_len {b : List Nat} {O : Nat} {d : List Nat} (h : O + d.length ≤ b.length) : (putB b O d).length = b.length := by
  simp [putB]; omega
/-- in a region that draws: copy of bytes into a block. -/
theorem step_copy_at {ops : Array Oper} {o : Oper} {a : Act} {w : World} {K : Act → World → Prop} {Q : Exit → Act → World → Prop} {E : Prop} (hgd : o.guard = none) (d s : Operand)
    (ho : o.op = .call { callee := .builtin .copy, args := #[d, s], argTypes := #[23, 23] }) (g off dLen dCap : Nat) (hd : a.eval d = .slice (some ⟨g, off, none⟩) dLen dCap)
    (src : Option Addr) (m c : Nat) (l : List Nat) (hm : l.length = m) (hs : a.eval s = .slice src m c) (hr : Row w src l) (h0 : 0 < m) (cur : List Value) (hg : w.heap[g]? = some (.cells cur.toArray 5 (0, 0))) (hle : m ≤ dLen) (hfit : off + m ≤ cur.length)
    (h : K (a.put o.dst (goInt m)) (w.setRow g (cur.take off ++ (cells l ++ cur.drop (off + m))).toArray)) : if Region.wanted o (yielded ops a.tmps) = true then Oper.wp Try.prog o a w K Q else E := by
  rw [if_pos (by simp [Region.wanted, hgd])]
  subst hm
  obtain ⟨b, of, rfl, _⟩ := hr.2.2 h0
  have hrun := run_copy_row (P := Try.prog) w 23 23 o.type 5 g off dLen dCap ⟨b, of, none⟩ l.length c cur.toArray 5 (cells l) Try.underlying23 (by have := Try.info5; obtain ⟨i0, hi, _, hz, _⟩ := info_parts this; rw [hi]; simp [hz]) hg (by rw [cells_length]; exact (Nat.min_eq_left hle).symm) (row_cells hr _ rfl) (by rw [cells_length]; simpa using hfit) (one_cell _)
  unfold Oper.wp
  simp only [cells_length] at hrun
  simp [execOp, ho, resolve, invoke, builtin, hd, hs, hrun, Result.andThen]
  exact h
theorem setRow_off (w : World) (g : Nat) (cs : Array Value) : Off (fun i => i = g) w (w.setRow g cs) :=
  ⟨rfl, rfl, rfl, by simp [World.setRow], fun k _ hn => setRow_other w g k cs hn⟩
/-- own bytes with others laid over them. -/
theorem put_own {w : World} {n g c : Nat} {B D : List Nat} {suf : List Value} {O : Nat} (hn : n ≤ g) (h : w.heap[g]? = some (.cells (cells B ++ suf).toArray 5 (0, 0))) (hc : B.length + suf.length = c) (hm : c ≤ maxLen) (hO : O + D.length ≤ B.length) :
    (w.setRow g ((cells B ++ suf).take O ++ (cells D ++ (cells B ++ suf).drop (O + D.length))).toArray).ownsRow n 5 1 (.slice (some ⟨g, 0, none⟩) B.length c) B.length (cells (putB B O D)) := by
  have e : (cells B ++ suf).take O ++ (cells D ++ (cells B ++ suf).drop (O + D.length)) = cells (putB B O D) ++ suf := by
    rw [List.take_append_of_le_length (by rw [cells_length]; omega), List.drop_append_of_le_length (by rw [cells_length]; omega)]
    simp [cells, putB, List.map_take, List.map_drop]
  rw [e]
  have hl := putB_len hO
  have := block_own (w := w.setRow g (cells (putB B O D) ++ suf).toArray) (l := putB B O D) (suf := suf) (c := c) hn (setRow_heap w g _ _ _ _ h) (by omega) hm
  rw [hl] at this
  exact this
/-- claims' own block is no block of bytes. -/
theorem claim_apart {w : World} {n : Nat} {v : Value} {m k g : Nat} {xs : List Value} {C : Array Value} (h : w.ownsRow n 60 2 v m xs) (hb : w.heap[g]? = some (.cells C 5 (0, 0))) (hk : v.ownBlock = some k) (e : k = g) : False := by
  rcases h.2 with ⟨rfl, _⟩ | ⟨g2, cap, cur, rfl, _, hc, _⟩
  · cases hk
  · cases hk
    subst e
    rw [hb] at hc
    simp at hc
/-- where putIn stands behind the copy. -/
structure PS1 (n : Nat) (w wd : World) (tb : Nat) (s : Tk) (gg c : Nat) (g : Option Addr) (d : Nat) (x : Sg) (xa : Option Addr) (xc : Nat) (a2 : Option Addr) (c2 : Nat) : Prop where
  tn : Tn n wd tb { s with byt := putB s.byt x.off.toNat x.dat } (some ⟨gg, 0, none⟩) c g d (.slice none 0 0)
  box : wd.heap[w.heap.size]? = some (sc x xa xc a2 c2)
  off : Off (Wr tb (some ⟨gg, 0, none⟩)) w wd
theorem ps1_of {n : Nat} {w : World} {tb : Nat} {s : Tk} {gg c : Nat} {g : Option Addr} {d : Nat} {knd src : Int} {ses ser cks O : Nat} {tot low upp rea : Int} {chk : Bool} {dat : List Nat} {cls : List (Int × Int)} {xa : Option Addr} {xc : Nat} {a2 : Option Addr} {c2 : Nat} {suf : List Value} (h : Tn n w tb s (some ⟨gg, 0, none⟩) c g d (.slice none 0 0)) (hg : n ≤ gg ∧ w.heap[gg]? = some (.cells (cells s.byt ++ suf).toArray 5 (0, 0)) ∧ s.byt.length + suf.length = c ∧ c ≤ maxLen) (hO : O + dat.length ≤ s.byt.length) (hd : ∀ y ∈ dat, y < 256) :
    PS1 n w ((w.alloc (sc ⟨knd, src, ses, ser, cks, (O : Int), tot, low, upp, rea, chk, dat, cls⟩ xa xc a2 c2)).drew.setRow gg ((cells s.byt ++ suf).take O ++ (cells dat ++ (cells s.byt ++ suf).drop (O + dat.length))).toArray) tb s gg c g d ⟨knd, src, ses, ser, cks, (O : Int), tot, low, upp, rea, chk, dat, cls⟩ xa xc a2 c2 := by
  obtain ⟨h1, h2, h3, h4⟩ := hg
  generalize hx : (⟨knd, src, ses, ser, cks, (O : Int), tot, low, upp, rea, chk, dat, cls⟩ : Sg) = x
  have hoff : x.off.toNat = O := by rw [← hx]; simp
  have hdat : x.dat = dat := by rw [← hx]
  have hb : Below w.heap.size w (w.alloc (sc x xa xc a2 c2)).drew := ((Below.refl _ w).alloc (Nat.le_refl _) _).drew
  have ho := setRow_off (w.alloc (sc x xa xc a2 c2)).drew gg ((cells s.byt ++ suf).take O ++ (cells dat ++ (cells s.byt ++ suf).drop (O + dat.length))).toArray
  have hgl : gg < w.heap.size := (Array.getElem?_eq_some_iff.1 h2).1
  refine ⟨⟨?_, ⟨?_, ?_, ?_⟩, Nat.lt_of_lt_of_le h.lt (Nat.le_trans hb.size ho.size), ?_⟩, ho.at (heap_alloc_new w (sc x xa xc a2 c2)) (by show ¬ (_ = _); omega), (Off.of_below hb).trans ho (fun i _ e => .inr ⟨0, by have : i = gg := e; rw [this]⟩)⟩
  · have := ho.at (old_block hb h.here) (fun e => by have e' : tb = gg := e; have h5 := h.here; rw [e', h2] at h5; simp at h5)
    rw [this]
    simp [hoff, hdat, putB_len hO]
  · have := put_own h1 (old_block hb h2) h3 h4 hO
    simp only [hoff, hdat, putB_len hO]
    exact this
  · exact ho.owns ((Off.of_below (S := fun _ => False) hb).owns h.kn.got (fun _ _ t => t)) (fun k e t => claim_apart ((Off.of_below (S := fun _ => False) hb).owns h.kn.got (fun _ _ t => t)) (old_block hb h2) e t)
  · intro y hy
    simp only [hoff, hdat, putB, List.append_assoc, List.mem_append] at hy
    rcases hy with hy | hy | hy
    · exact h.kn.bok y (List.mem_of_mem_take hy)
    · exact hd y hy
    · exact h.kn.bok y (List.mem_of_mem_drop hy)
  · have := hb.size
    simp [World.setRow]
    have := h.le
    omega
theorem put_below {wc w2 : World} {o : Obj} {v : Value → Prop} (hb : Below wc.heap.size wc (wc.alloc o)) (q2 : Off (fun i => i = wc.heap.size) (wc.alloc o).drew w2) : Below wc.heap.size wc w2 :=
  (hb.drew).trans (q2.below (Below.size (hb.drew)) (fun i e => by have : i = wc.heap.size := e; omega))
theorem put_cells {n : Nat} {w wc w2 : World} {tb : Nat} {s : Tk} {gg c : Nat} {g : Option Addr} {d : Nat} {x : Sg} {xa : Option Addr} {xc : Nat} {a2 : Option Addr} {c2 : Nat} {o : Obj} {p : Value → Prop} (h : PS1 n w wc tb s gg c g d x xa xc a2 c2) (hb : Below wc.heap.size wc (wc.alloc o)) (hq : ∃ v', p v' ∧ Off (fun i => i = wc.heap.size) (wc.alloc o).drew w2) :
    w2.cell? ⟨tb, 4, none⟩ = some (.slice g s.got.length d) ∧ w2.cell? ⟨w.heap.size, 5, none⟩ = some (.int .i64 x.off) ∧ w2.cell? ⟨w.heap.size, 11, none⟩ = some (.slice xa x.dat.length xc) := by
  obtain ⟨v', _, q2⟩ := hq
  have hbl := put_below (v := p) hb q2
  have h1 := tc_get (old_block hbl h.tn.here)
  have h2 := scells (old_block hbl h.box)
  exact ⟨h1.2.2.2.2.1, h2.2.2.2.2.2.1, h2.2.2.2.2.2.2.2.2.2.2.2.1⟩
theorem sta_set {n : Nat} {w : World} {tb : Nat} {s : Tk} {a : Option Addr} {c : Nat} {g : Option Addr} {d : Nat} {v : Value} (h : Tn n w tb s a c g d v) (q : Int) : Tn n (w.setCell ⟨tb, 6, none⟩ (.int .i64 q)) tb { s with sta := q } a c g d v ∧ Off (fun i => i = tb) w (w.setCell ⟨tb, 6, none⟩ (.int .i64 q)) := by
  have ho : Off (fun i => i = tb) w (w.setCell ⟨tb, 6, none⟩ (.int .i64 q)) := (Off.refl (fun i => i = tb) w).setCell (p := ⟨tb, 6, none⟩) (.inr rfl) _
  have hk := h.kn.keep h.here ho
  refine ⟨⟨?_, ⟨hk.byt, hk.got, hk.bok⟩, Nat.lt_of_lt_of_le h.lt ho.size, Nat.le_trans h.le ho.size⟩, ho⟩
  rw [heap_setCell_same _ _ _ _ _ _ h.here]
  rfl
theorem put_set {n : Nat} {w : World} {tb : Nat} {s : Tk} {a : Option Addr} {c : Nat} {g : Option Addr} {d : Nat} {ag : Option Addr} {dg : Nat} {L : List (Int × Int)} (h : Tn n w tb s a c g d (.slice none 0 0)) (hg : w.ownsRow n 60 2 (.slice ag L.length dg) L.length (ccells L)) :
    Tn n (w.setCell ⟨tb, 4, none⟩ (.slice ag L.length dg)) tb { s with got := L } a c ag dg (.slice none 0 0) ∧ Off (fun i => i = tb) w (w.setCell ⟨tb, 4, none⟩ (.slice ag L.length dg)) := by
  have ho : Off (fun i => i = tb) w (w.setCell ⟨tb, 4, none⟩ (.slice ag L.length dg)) := (Off.refl (fun i => i = tb) w).setCell (p := ⟨tb, 4, none⟩) (.inr rfl) _
  have hk := h.kn.keep h.here ho
  refine ⟨⟨?_, ⟨hk.byt, ho.owns hg (fun k e t => own_apart hg h.here (by decide) (by have t' : k = tb := t; rw [← t']; exact e)), hk.bok⟩, Nat.lt_of_lt_of_le h.lt ho.size, Nat.le_trans h.le ho.size⟩, ho⟩
  rw [heap_setCell_same _ _ _ _ _ _ h.here]
  rfl
set_option maxRecDepth 20000 in
set_option maxHeartbeats 4000000 in
theorem vput_any (n : Nat) (s : Tk) (a : Option Addr) (c : Nat) (g : Option Addr) (d : Nat) (tb : Nat) (x : Sg) (xa : Option Addr) (xc : Nat) (a2 : Option Addr) (c2 : Nat) (w : World) (h : Tn n w tb s a c g d (.slice none 0 0)) (hx : Row w xa x.dat) (hL : ∀ r ∈ s.got, (0 ≤ r.1 ∧ r.1 ≤ 512) ∧ (0 ≤ r.2 ∧ r.2 ≤ 512)) (hl : s.got.length ≤ 600) (ho : 0 ≤ x.off) (hod : x.off + (x.dat.length : Int) ≤ (s.byt.length : Int)) (hs : s.byt.length ≤ 512) (hd0 : 0 < x.dat.length) :
    Calls Try.prog 56 #[.pointer (some ⟨tb, 0, none⟩), sv x xa xc a2 c2] w fun e w' => e = .returned (.tuple #[]) ∧ Hid (Left n w w' tb a (putK s x) []) := by
  obtain ⟨gg, suf, rfl, hgn, hgb, hgc, hgm⟩ := own_block h.kn.byt (by omega)
  obtain ⟨knd, src, ses, ser, cks, off, tot, low, upp, rea, chk, dat, cls⟩ := x
  simp only at hx ho hod hd0
  obtain ⟨O, rfl⟩ : ∃ O : Nat, off = O := ⟨off.toNat, by omega⟩
  have HT : Hid (Tn n w tb s (some ⟨gg, 0, none⟩) c g d (.slice none 0 0)) := h
  have HX : Hid (Row w xa dat) := hx
  have HL : Hid (∀ r ∈ s.got, (0 ≤ r.1 ∧ r.1 ≤ 512) ∧ (0 ≤ r.2 ∧ r.2 ≤ 512)) := hL
  have HGB : Hid (n ≤ gg ∧ w.heap[gg]? = some (.cells (cells s.byt ++ suf).toArray 5 (0, 0)) ∧ s.byt.length + suf.length = c ∧ c ≤ maxLen) := ⟨hgn, hgb, hgc, hgm⟩
  have hcs : s.byt.length ≤ c := by omega
  have hod2 : O + dat.length ≤ s.byt.length := by omega
  have hoc : O < c := by omega
  clear h hx hL hgn hgb hgc hgm hod ho
  obtain ⟨XX, hXX⟩ : ∃ XX : Sg, Hid (XX = ⟨knd, src, ses, ser, cks, (O : Int), tot, low, upp, rea, chk, dat, cls⟩) := ⟨_, rfl⟩
  have HB1 : Hid (Below w.heap.size w (w.alloc (sc ⟨knd, src, ses, ser, cks, (O : Int), tot, low, upp, rea, chk, dat, cls⟩ xa xc a2 c2))) := (Below.refl _ w).alloc (Nat.le_refl _) _
  have HXR : Hid (Row (w.alloc (sc ⟨knd, src, ses, ser, cks, (O : Int), tot, low, upp, rea, chk, dat, cls⟩ xa xc a2 c2)).drew xa dat) := HX.out.later (HB1.out.drew)
  have HGH : Hid ((w.alloc (sc ⟨knd, src, ses, ser, cks, (O : Int), tot, low, upp, rea, chk, dat, cls⟩ xa xc a2 c2)).drew.heap[gg]? = some (.cells (cells s.byt ++ suf).toArray 5 (0, 0))) := old_block (HB1.out.drew) HGB.out.2.1
  have HFT : Hid (O + dat.length ≤ (cells s.byt ++ suf).length) := by show _ ≤ _; rw [List.length_append, cells_length]; omega
  have t3 : ∀ X, (w.alloc X).cell? ⟨tb, 3, none⟩ = some (.slice (some ⟨gg, 0, none⟩) s.byt.length c) := fun X => (tc_get (old_block ((Below.refl _ w).alloc (Nat.le_refl _) X) HT.out.here)).2.2.2.1
  have hi1 : (O : Int) ≤ (s.byt.length : Int) := by omega
  have hi2 : (s.byt.length : Int) ≤ (c : Int) := by omega
  have hle : dat.length ≤ s.byt.length - O := by omega
  have hif : (if c = O then some (⟨gg, 0, none⟩ : Addr) else some ⟨gg, O, none⟩) = some ⟨gg, O, none⟩ := if_neg (by omega)
  go_enter Try.func56, Try.ntmps56
  go_wp2_with fail
  go_cut [] from 5 to 16 (fun wd => Hid (PS1 n w wd tb s gg c g d ⟨knd, src, ses, ser, cks, (O : Int), tot, low, upp, rea, chk, dat, cls⟩ xa xc a2 c2))
  case first =>
    go_region_law (refine step_copy_at rfl _ _ rfl gg O (s.byt.length - O) (c - O) (by rfl) xa dat.length xc dat rfl (by rfl) HXR.out hd0 (cells s.byt ++ suf) HGH.out hle HFT.out ?_)
    all_goals
      go_wp2
      go_meet
      case rel => exact ps1_of HT.out HGB.out hod2 HX.out.1
  case rest =>
    have HP := hcut
    clear hcut HB1 HXR HGH HFT t3 hif hle hi1 hi2
    have HRG : Hid (RowC wc g s.got) := by
      obtain ⟨a', c', e1, e2, e3, e4, e5, _⟩ := ownC_row HP.out.tn.kn.got
      simp only [Value.slice.injEq] at e1
      obtain ⟨rfl, _, rfl⟩ := e1
      exact e5
    have HB2 : Hid (Below wc.heap.size wc (wc.alloc (.cells #[.slice none 0 0] 24))) := (Below.refl _ wc).alloc (Nat.le_refl _) _
    have HTG : Hid (∀ W, Below (wc.heap.size + 1) (wc.alloc (.cells #[.slice none 0 0] 24)) W → Calls Try.prog 62 #[.slice g s.got.length d, .agg #[.int .i64 (O : Int), .int .i64 (dat.length : Int)], .func (.func 63) #[] #[.pointer (some ⟨wc.heap.size, 0, none⟩)]] W fun e w' => e = .returned (.tuple #[]) ∧ Hid (∃ v', Gx w' wc.heap.size W.heap.size v' (tog s.got O dat.length) ∧ Off (fun i => i = wc.heap.size) W w')) := fun W hb => by
      have hb' : Below (wc.alloc (.cells #[.slice none 0 0] 24)).heap.size (wc.alloc (.cells #[.slice none 0 0] 24)) W := by simpa using hb
      refine vtog_any wc.heap.size s.got g d O dat.length W (old_block hb' (heap_alloc_new wc _)) (HRG.out.later (below_of HB2.out hb')) HL.out (by omega) (by omega) (by omega) (fun h0 bb e t => ?_)
      obtain ⟨b, of, rfl, hc⟩ := HRG.out.2 h0
      cases e
      have := (hc 0 h0).1
      have t' : b = wc.heap.size := t
      rw [World.cell?, Array.getElem?_eq_none (by simp only; omega)] at this
      cases this
    have HTE : Hid (Calls Try.prog 62 #[.slice g s.got.length d, .agg #[.int .i64 (O : Int), .int .i64 (dat.length : Int)], .func (.func 63) #[] #[.pointer (some ⟨wc.heap.size, 0, none⟩)]] (wc.alloc (.cells #[.slice none 0 0] 24)).drew fun e w' => e = .returned (.tuple #[]) ∧ Hid (∃ v', Gx w' wc.heap.size (wc.alloc (.cells #[.slice none 0 0] 24)).drew.heap.size v' (tog s.got O dat.length) ∧ Off (fun i => i = wc.heap.size) (wc.alloc (.cells #[.slice none 0 0] 24)).drew w')) := HTG.out (wc.alloc (.cells #[.slice none 0 0] 24)).drew ((Below.refl _ _).drew)
    clear HTG
    have u4' : ∀ X, (wc.alloc X).cell? ⟨tb, 4, none⟩ = some (.slice g s.got.length d) := fun X => (tc_get (old_block ((Below.refl _ wc).alloc (Nat.le_refl _) X) HP.out.tn.here)).2.2.2.2.1
    have x5 : ∀ X, (wc.alloc X).cell? ⟨w.heap.size, 5, none⟩ = some (.int .i64 (O : Int)) := fun X => (scells (old_block ((Below.refl _ wc).alloc (Nat.le_refl _) X) HP.out.box)).2.2.2.2.2.1
    have x11 : ∀ X, (wc.alloc X).cell? ⟨w.heap.size, 11, none⟩ = some (.slice xa dat.length xc) := fun X => (scells (old_block ((Below.refl _ wc).alloc (Nat.le_refl _) X) HP.out.box)).2.2.2.2.2.2.2.2.2.2.2.1
    go_wp2_with fail
    go_cut [] from 16 to 33 (fun wd => Hid (∃ v', Tn n wd tb { s with byt := putB s.byt O dat } (some ⟨gg, 0, none⟩) c g d (.slice none 0 0) ∧ Gx wd wc.heap.size n v' (tog s.got O dat.length) ∧ Off (Wr tb (some ⟨gg, 0, none⟩)) w wd))
    case first =>
      have hS0 := (⟨u4' (.cells #[.slice none 0 0] 24), x5 (.cells #[.slice none 0 0] 24), x11 (.cells #[.slice none 0 0] 24)⟩ : (wc.alloc (.cells #[.slice none 0 0] 24)).cell? ⟨tb, 4, none⟩ = some (.slice g s.got.length d) ∧ (wc.alloc (.cells #[.slice none 0 0] 24)).cell? ⟨w.heap.size, 5, none⟩ = some (.int .i64 (O : Int)) ∧ (wc.alloc (.cells #[.slice none 0 0] 24)).cell? ⟨w.heap.size, 11, none⟩ = some (.slice xa dat.length xc))
      go_region_held3 (fun W => W.cell? ⟨tb, 4, none⟩ = some (.slice g s.got.length d) ∧ W.cell? ⟨w.heap.size, 5, none⟩ = some (.int .i64 (O : Int)) ∧ W.cell? ⟨w.heap.size, 11, none⟩ = some (.slice xa dat.length xc)) (first | exact hS0 | exact hS2) ((go_at_call 62; refine HTE.out.mono ?_; rintro e w2 ⟨rfl, hq⟩; have hS2 := (put_cells HP.out HB2.out hq.out)))
      all_goals
        go_wp2
        go_meet
        case rel =>
          obtain ⟨v', q1, q2⟩ := hq.out
          have hbl : Below wc.heap.size wc w2 := put_below (v := fun _ => True) HB2.out q2
          exact ⟨v', HP.out.tn.off (S := fun _ => False) (Off.of_below hbl) (fun _ t => t.elim) id, ⟨q1.1, own_base q1.2 (Nat.le_trans HP.out.tn.le (Below.size (HB2.out.drew)))⟩, HP.out.off.trans (Off.of_below (S := fun _ => False) hbl) (fun _ _ t => t.elim)⟩
    case rest =>
      obtain ⟨v', q1, q2, q3⟩ := hcut.out
      obtain ⟨ag, dg, rfl, hdg, hdm⟩ := own_form q2.2
      have gxc := cell_of q2.1 0
      obtain ⟨_, _, _, _, k4, _, _, _, _, _⟩ := tc_get q1.here
      have ff := frozen_of q1.here
      obtain ⟨t3, o3⟩ := put_set q1 q2.2
      have HT3 : Hid (Tn n (wc.setCell ⟨tb, 4, none⟩ (.slice ag (tog s.got O dat.length).length dg)) tb (putG s ⟨knd, src, ses, ser, cks, (O : Int), tot, low, upp, rea, chk, dat, cls⟩) (some ⟨gg, 0, none⟩) c ag dg (.slice none 0 0) ∧ Off (Wr tb (some ⟨gg, 0, none⟩)) w (wc.setCell ⟨tb, 4, none⟩ (.slice ag (tog s.got O dat.length).length dg))) := ⟨t3, q3.trans o3 (fun i _ e => .inl e)⟩
      clear q1 q2 q3 t3 o3 HTE u4' x5 x11 HRG HB2 HP hcut HGB HT HX HL
      obtain ⟨P, hP⟩ : ∃ P : Tk, P = putG s ⟨knd, src, ses, ser, cks, (O : Int), tot, low, upp, rea, chk, dat, cls⟩ := ⟨_, rfl⟩
      have HPE : Hid (putK s ⟨knd, src, ses, ser, cks, (O : Int), tot, low, upp, rea, chk, dat, cls⟩ = if wholeK P = true then { P with sta := 2 } else P) := by show _ = _; rw [hP]; rfl
      rw [← hP] at HT3
      clear hP
      obtain ⟨cs, hcs⟩ : ∃ cs, Hid (cs = kcells P (some ⟨gg, 0, none⟩) c ag dg) := ⟨_, rfl⟩
      have hsz : (Try.prog.info? 26).map (·.size) = some cs.length := by rw [show cs.length = 9 by rw [hcs.out]; rfl]; kernel_rfl
      have HR : Hid ((wc.setCell ⟨tb, 4, none⟩ (.slice ag (tog s.got O dat.length).length dg)).rangeAt tb 0 cs) := by rw [hcs.out]; exact t_range9 HT3.out.1.here
      have HW : Hid (∀ W, Below (wc.setCell ⟨tb, 4, none⟩ (.slice ag (tog s.got O dat.length).length dg)).heap.size (wc.setCell ⟨tb, 4, none⟩ (.slice ag (tog s.got O dat.length).length dg)) W → Calls Try.prog 43 #[.agg cs.toArray] W fun e w' => e = .returned (.bool (wholeK P)) ∧ Hid (Below W.heap.size W w')) := fun W hb => by
        rw [hcs.out]
        refine vwhole_any P (some ⟨gg, 0, none⟩) c ag dg W ?_
        obtain ⟨a', c', e1, e2, e3, e4, e5, _⟩ := ownC_row HT3.out.1.kn.got
        simp only [Value.slice.injEq] at e1
        obtain ⟨rfl, _, rfl⟩ := e1
        exact e5.later hb
      cases hwh : wholeK P with
      | false =>
        rw [hwh] at HW HPE
        clear hwh
        go_wp2_with (first | (refine wpList_load_mid rfl 26 _ rfl tb 0 (by rfl) cs _ HR.out Try.underlying26 rfl hsz ?_) | (go_at_call 43; refine (HW.out _ (Below.refl _ _)).mono ?_; rintro e w3 ⟨rfl, hb3⟩))
        have HF : Hid (Left n w w3 tb (some ⟨gg, 0, none⟩) (putK s ⟨knd, src, ses, ser, cks, (O : Int), tot, low, upp, rea, chk, dat, cls⟩) []) := by
          rw [HPE.out, if_neg (by simp)]
          exact ⟨_, _, _, _, HT3.out.1.off (S := fun _ => False) (Off.of_below hb3.out) (fun _ t => t.elim) id, rfl, HT3.out.2.trans (Off.of_below (S := fun _ => False) hb3.out) (fun _ _ t => t.elim)⟩
        go_end0
        exact ⟨rfl, HF⟩
      | true =>
        rw [hwh] at HW HPE
        clear hwh
        go_wp2_with (first | (refine wpList_load_mid rfl 26 _ rfl tb 0 (by rfl) cs _ HR.out Try.underlying26 rfl hsz ?_) | (go_at_call 43; refine (HW.out _ (Below.refl _ _)).mono ?_; rintro e w3 ⟨rfl, hb3⟩; have HT4 : Hid (Tn n w3 tb P (some ⟨gg, 0, none⟩) c ag dg (.slice none 0 0) ∧ Off (Wr tb (some ⟨gg, 0, none⟩)) w w3) := (⟨HT3.out.1.off (S := fun _ => False) (Off.of_below hb3.out) (fun _ t => t.elim) id, HT3.out.2.trans (Off.of_below (S := fun _ => False) hb3.out) (fun _ _ t => t.elim)⟩); have m6 := (tc_get HT4.out.1.here).2.2.2.2.2.2.1; have f4 := frozen_of HT4.out.1.here))
        have HF : Hid (Left n w (w3.setCell ⟨tb, 6, none⟩ (.int .i64 2)) tb (some ⟨gg, 0, none⟩) (putK s ⟨knd, src, ses, ser, cks, (O : Int), tot, low, upp, rea, chk, dat, cls⟩) []) := by
          rw [HPE.out, if_pos trivial]
          obtain ⟨h1, h2⟩ := sta_set HT4.out.1 2
          exact ⟨_, _, _, _, h1, rfl, HT4.out.2.trans h2 (fun _ _ e => .inl e)⟩
        go_end0
        exact ⟨rfl, HF⟩
end Go.Proofs.Ythmolodkaboakaa
