/- SegmentBack, whatever bytes. -/
import Derived.Test.YtidmkcnoncanbaaZSBackB
import Derived.Test.YtidmkcnoncanbaaZSBackS
namespace Go.Proofs.Ytidmkcnoncanbaa
open Go.RowKit
theorem sback_any (w : World) (s : Sg) (a : Option Addr) (c : Nat) (a2 : Option Addr) (c2 : Nat) (hc : Came w s a c a2 c2) (ab : Option Addr) (cb : Nat) (l : List Nat) (hr : Row w ab l) (hz : l.length ≤ 140737488351232) (hlc : l.length ≤ cb) (hcm : cb ≤ maxLen) :
    Calls Try.prog 6 #[sv s a c a2 c2, .slice ab l.length cb] w fun e w' => e = .returned (.bool true) ∧ Hid (Below w.heap.size w w') := by
  by_cases h : 700 < l.length
  · exact sback_big w s a c a2 c2 hc ab cb l hr hz hlc hcm h
  · exact sback_small w s a c a2 c2 hc ab cb l hr hz hlc hcm h
end Go.Proofs.Ytidmkcnoncanbaa
