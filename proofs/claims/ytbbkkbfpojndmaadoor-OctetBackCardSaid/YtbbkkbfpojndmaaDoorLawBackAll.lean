/- The walk of OctetBack, joined. -/
import Derived.Test.YtbbkkbfpojndmaaDoorLawBack
namespace Go.Proofs.YtbbkkbfpojndmaaDoor
open Go.RowKit
theorem back_walk (t h x m r l g hb nx d N : Nat) (ok : RowOk t h x m r l g hb nx d N) (A : Option Addr) (n c : Nat) (k : List UInt8) (y : Nat) (hy : y < 18446744073709551616) (w : World) (hS : Sizes w) (hB : Bs w A k) (hn : n = k.length) (hc : n ≤ c) (hlen : n ≤ maxLen) :
    Calls Tryd.prog 7 #[rowVal t h x m r l g hb nx d N, .slice A n c, .int .u64 y] w (Yes w) := by
  by_cases h1 : (n : Int) ≤ 4096
  · by_cases h20 : 20 ≤ (n : Int)
    · exact back_many t h x m r l g hb nx d N ok A n c k y hy w hS hB hn hc hlen h1 h20
    · exact back_few t h x m r l g hb nx d N ok A n c k y hy w hS hB hn hc hlen h1 (by omega)
  · exact back_long t h x m r l g hb nx d N ok A n c k y hy w hS hB hn hc hlen (by omega)
end Go.Proofs.YtbbkkbfpojndmaaDoor
