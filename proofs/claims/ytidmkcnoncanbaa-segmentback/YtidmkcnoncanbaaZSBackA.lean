/- The first statement of SegmentBack: the world behind it. -/
import Derived.Test.YtidmkcnoncanbaaZWakes
import Derived.Test.YtidmkcnoncanbaaZShortW
import Derived.Deep.Cut
namespace Go.Proofs.Ytidmkcnoncanbaa
open Go.RowKit
set_option linter.unusedVariables false
/-- the world behind the first statement: the argument's block holds the short segment. -/
def BackA (w W : World) (S : Sg) (b : Option Addr) (d : Nat) (b2 : Option Addr) (d2 : Nat) : Prop := W.heap[w.heap.size]? = some (sc S b d b2 d2) ∧ Below w.heap.size w W ∧ Came W S b d b2 d2
theorem backA_set0 {w W : World} {s S : Sg} {a : Option Addr} {c : Nat} {a2 : Option Addr} {c2 : Nat} {b : Option Addr} {d : Nat} {b2 : Option Addr} {d2 h : Nat} (hb : Below w.heap.size w W) (hp : W.heap[w.heap.size]? = some (sc s a c a2 c2)) (hc : Came W S b d b2 d2) (hh : w.heap.size + 1 ≤ h) (n1 : ∀ bb, b = some bb → h ≤ bb.block) (n2 : ∀ bb, b2 = some bb → h ≤ bb.block) : BackA w (((((((((((((W.setCell ⟨w.heap.size, 0, none⟩ (.int .i64 S.knd)).setCell ⟨w.heap.size, 1, none⟩ (.int .i64 S.src)).setCell ⟨w.heap.size, 2, none⟩ (.int .u32 (S.ses : Nat))).setCell ⟨w.heap.size, 3, none⟩ (.int .u32 (S.ser : Nat))).setCell ⟨w.heap.size, 4, none⟩ (.int .u32 (S.cks : Nat))).setCell ⟨w.heap.size, 5, none⟩ (.int .i64 S.off)).setCell ⟨w.heap.size, 6, none⟩ (.int .i64 S.tot)).setCell ⟨w.heap.size, 7, none⟩ (.int .i64 S.low)).setCell ⟨w.heap.size, 8, none⟩ (.int .i64 S.upp)).setCell ⟨w.heap.size, 9, none⟩ (.int .i64 S.rea)).setCell ⟨w.heap.size, 10, none⟩ (.bool S.chk)).setCell ⟨w.heap.size, 11, none⟩ (.slice b S.dat.length d)).setCell ⟨w.heap.size, 12, none⟩ (.slice b2 S.cls.length d2)) S b d b2 d2 := by
  have ho := off_store W w.heap.size (.int .i64 S.knd) (.int .i64 S.src) (.int .u32 (S.ses : Nat)) (.int .u32 (S.ser : Nat)) (.int .u32 (S.cks : Nat)) (.int .i64 S.off) (.int .i64 S.tot) (.int .i64 S.low) (.int .i64 S.upp) (.int .i64 S.rea) (.bool S.chk) (.slice b S.dat.length d) (.slice b2 S.cls.length d2)
  exact ⟨seg_store hp, hb.trans (ho.below hb.size (fun i e => by have : i = w.heap.size := e; omega)), hc.fit, hc.row.off ho (fun _ bb hb e => by have := n1 bb hb; have e2 : bb.block = w.heap.size := e; omega), hc.rowc.off ho (fun _ bb hb e => by have := n2 bb hb; have e2 : bb.block = w.heap.size := e; omega), hc.le, hc.cap, hc.lec, hc.capc⟩
end Go.Proofs.Ytidmkcnoncanbaa
