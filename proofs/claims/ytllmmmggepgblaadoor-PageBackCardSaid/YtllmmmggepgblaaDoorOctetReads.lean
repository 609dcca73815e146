/- The contracts of package octet: rows of numbers, read. -/
import Derived.Test.YtllmmmggepgblaaDoorOctetRows
namespace Go.Proofs.YtllmmmggepgblaaDoor
open Go.RowKit
set_option linter.unusedSimpArgs false
set_option linter.unusedVariables false
set_option maxRecDepth 100000

theorem flip_ {P : Program} {f : FuncId} {args : Array Value} {w : World} {v : Value} (h : Calls P f args w fun e w' => e = .returned v ∧ w = w') : Calls P f args w fun e w' => e = .returned v ∧ w' = w :=
  h.mono fun _ _ h => ⟨h.1, h.2.symm⟩

/-- What a row's reader leaves. -/
def Read2 (w : World) (T : Value) (e : Ending) (w' : World) : Prop := e = .returned T ∧ Keeps w w'

theorem Bs.drewAlloc {w : World} {A : Option Addr} {l : List UInt8} (h : Bs w A l) (o : Obj) : Bs (w.alloc o).drew A l := h.keep (keeps_trans (keeps_alloc w o) (keeps_drew _))

end Go.Proofs.YtllmmmggepgblaaDoor
