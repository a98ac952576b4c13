/- The reference's Put: its end. -/
import Derived.Test.YthmolodkaboakaaVPutW
import Derived.Test.YthmolodkaboakaaVTog
namespace Go.Proofs.Ythmolodkaboakaa
open Go.RowKit
set_option linter.unusedVariables false
theorem togP_is : ∀ (l : List (Int × Int)) (x y : Int), togP l x y = tog l x y
  | [], x, y => rfl
  | r :: rs, x, y => by
    rw [togP, tog]
    simp only [togP_is rs]
theorem put_rows {s : Tk} {x : Sg} (hok : okK s = true) (hd : dataS x = true) (ht : x.tot = s.tot) : runs (covC s x) s.byt.length = tog s.got x.off x.dat.length ∧ mixB s.byt x.off.toNat x.dat s.byt.length = putB s.byt x.off.toNat x.dat ∧ clsOk s.tot 0 (tog s.got x.off x.dat.length) = true := by
  obtain ⟨⟨ht1, ht2⟩, hbl, _, _, hcl, _⟩ := smallK hok
  obtain ⟨_, hdl, hof, _⟩ := dataS_of hd
  refine ⟨?_, mix_all (by omega), ?_⟩
  · rw [← togP_is]
    refine tog_runs (u := s.byt.length) (by rw [hbl]; exact hcl) hof.1 hdl.1 (by omega) _ (fun i hi => ?_)
    unfold covC ownJ
    have e1 : decide (x.off.toNat ≤ i) = decide (x.off ≤ (i : Int)) := decide_eq_decide.2 (by omega)
    have e2 : decide (i < x.off.toNat + x.dat.length) = decide ((i : Int) < x.off + (x.dat.length : Int)) := decide_eq_decide.2 (by omega)
    rw [e1, e2]
  · rw [← togP_is]
    exact tog_cls _ _ _ _ hcl hof.1 hdl.1 (by omega)
theorem putB_byte {b d : List Nat} {O : Nat} (h1 : ∀ y ∈ b, y < 256) (h2 : ∀ y ∈ d, y < 256) : ∀ y ∈ putB b O d, y < 256 := by
  intro y hy
  unfold putB at hy
  rcases List.mem_append.1 hy with hy | hy
  · rcases List.mem_append.1 hy with hy | hy
    · exact h1 y (List.mem_of_mem_take hy)
    · exact h2 y hy
  · exact h1 y (List.mem_of_mem_drop hy)
/-- the session's own block, with the bytes and the rows laid into it. -/
theorem pt_fin {w wr : World} {s : Tk} {a : Option Addr} {c : Nat} {g : Option Addr} {d : Nat} {x : Sg} {xa : Option Addr} {xc : Nat} {a2 : Option Addr} {c2 : Nat} {gb cb lc : Nat} {la : Option Addr} (h : PutI w wr s a c g d x xa xc a2 c2 s.byt.length s.byt.length (.slice (some ⟨gb, 0, none⟩) s.byt.length cb) (.slice la (runs (covC s x) s.byt.length).length lc)) (hok : okK s = true) (hd : dataS x = true) (ht : x.tot = s.tot) (hc : CameK w s a c g d) (hx : Came w x xa xc a2 c2) :
    rputK s x = (putG s x, true) ∧ ∃ W3, W3 = (wr.setCell ⟨w.heap.size, 3, none⟩ (.slice (some ⟨gb, 0, none⟩) s.byt.length cb)).setCell ⟨w.heap.size, 4, none⟩ (.slice la (runs (covC s x) s.byt.length).length lc) ∧ W3.rangeAt w.heap.size 0 (kcells (putG s x) (some ⟨gb, 0, none⟩) cb la lc) ∧ Below w.heap.size w W3 ∧ W3.heap[w.heap.size + 1 + 1]? = some (kc zeroK none 0 none 0) ∧ KN (w.heap.size + 3) W3 (putG s x) (some ⟨gb, 0, none⟩) cb la lc := by
  obtain ⟨r1, r2, r3⟩ := put_rows hok hd ht
  obtain ⟨⟨ht1, ht2⟩, hbl, _, _, hcl, _⟩ := smallK hok
  obtain ⟨_, hdl, hof, _⟩ := dataS_of hd
  have ho : Off (fun i => i = w.heap.size) wr ((wr.setCell ⟨w.heap.size, 3, none⟩ (.slice (some ⟨gb, 0, none⟩) s.byt.length cb)).setCell ⟨w.heap.size, 4, none⟩ (.slice la (runs (covC s x) s.byt.length).length lc)) := ((Off.refl (fun i => i = w.heap.size) wr).setCell (p := ⟨w.heap.size, 3, none⟩) (.inr rfl) _).setCell (p := ⟨w.heap.size, 4, none⟩) (.inr rfl) _
  have hB : (putG s x).byt.length = s.byt.length := putB_len (by omega)
  have hO : (x.off.toNat : Int) = x.off := by omega
  refine ⟨?_, _, rfl, ?_, h.en.bel.trans (ho.below h.en.bel.size (fun i e => by have : i = w.heap.size := e; omega)), ho.at h.en.res (by show ¬ (_ = _); omega), ?_, ?_, ?_⟩
  · unfold rputK
    rw [dif_no hO.symm (by omega) (fun j hj h1 h2 => h.sm j hj h1 h2), if_neg (by simp)]
  · have h1 : (wr.setCell ⟨w.heap.size, 3, none⟩ (.slice (some ⟨gb, 0, none⟩) s.byt.length cb)).heap[w.heap.size]? = some (.cells #[.int .i64 s.src, .int .u32 (s.ses : Nat), .int .i64 s.tot, .slice (some ⟨gb, 0, none⟩) s.byt.length cb, .slice g s.got.length d, .int .u32 (s.ser : Nat), .int .i64 s.sta, .int .i64 s.lif, .int .i64 s.due] 26 (0, 0)) := by
      rw [heap_setCell_same _ _ _ _ _ _ h.en.one]
      rfl
    refine k_range ?_
    rw [heap_setCell_same _ _ _ _ _ _ h1]
    have e2 : (putG s x).got = runs (covC s x) s.byt.length := r1.symm
    show some (Obj.cells #[.int .i64 s.src, .int .u32 (s.ses : Nat), .int .i64 s.tot, .slice (some ⟨gb, 0, none⟩) s.byt.length cb, .slice la (runs (covC s x) s.byt.length).length lc, .int .u32 (s.ser : Nat), .int .i64 s.sta, .int .i64 s.lif, .int .i64 s.due] _ _) = some (Obj.cells #[.int .i64 s.src, .int .u32 (s.ses : Nat), .int .i64 s.tot, .slice (some ⟨gb, 0, none⟩) (putG s x).byt.length cb, .slice la (putG s x).got.length lc, .int .u32 (s.ser : Nat), .int .i64 s.sta, .int .i64 s.lif, .int .i64 s.due] _ _)
    rw [hB, e2]
  · have := ho.owns h.byt (fun k e t => by have := own_ge h.byt k e; have : k = w.heap.size := t; omega)
    rw [r2] at this
    rw [hB]
    exact this
  · have := ho.owns h.lst (fun k e t => by have := own_ge h.lst k e; have : k = w.heap.size := t; omega)
    rw [show (putG s x).got = runs (covC s x) s.byt.length from r1.symm]
    exact this
  · exact putB_byte hc.byt.1 hx.row.1
end Go.Proofs.Ythmolodkaboakaa
