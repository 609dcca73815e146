/- What package input answers: all its contracts. -/
import Derived.Test.YtbalejfloieiiaaDoorInCheck
import Derived.Test.YtbalejfloieiiaaDoorInWrite
import Derived.Test.YtbalejfloieiiaaDoorInReduce
import Derived.Test.YtbalejfloieiiaaDoorLawInput
import Derived.Test.YtbalejfloieiiaaDoorHandle
namespace Go.Proofs.YtbalejfloieiiaaDoor
open Go.RowKit

def inputOk : InputOk where
  Z w := Sizes w ∧ Handle w
  keep h k := ⟨h.1.keep k, h.2.keep k⟩
  head A n c l w hZ hB hn hc hl := head_any A n c l w hZ.1 hZ.2 hB hn hc (by omega)
  row A n c l N w hZ hN hB hn hc hl := row_any A n c l N hN w hZ.1 hZ.2 hB hn (by omega)
  check A n c l w hZ hB hn hc hl := check_any A n c l w hZ.1 hZ.2 hB hn hc hl
  write N A n c l w hZ hN hB hok hn hc hl := write_any N hN A n c l w hZ.1 hB hok hn hl
  reduce A n c l w hZ hB hok hn hc hl := reduce_any A n c l w hB hok hn hl
theorem zOf {W : World} (hs : Sizes W) (hh : Handle W) : inputOk.Z W := ⟨hs, hh⟩
end Go.Proofs.YtbalejfloieiiaaDoor
