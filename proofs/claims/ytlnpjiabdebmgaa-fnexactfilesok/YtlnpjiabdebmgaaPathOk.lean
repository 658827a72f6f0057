/- What the program calls a path. -/
import Derived.Test.YtlnpjiabdebmgaaParts
import Derived.Test.YtlnpjiabdebmgaaName
namespace Go.Proofs.Ytlnpjiabdebmgaa
open Go.RowKit Go.Shelf

attribute [local go_sem] Oper.semAt_some

def pathB (l : List UInt8) : Bool := decide ((cutB 47 l).length ≤ 5) && (cutB 47 l).all nameOkB

end Go.Proofs.Ytlnpjiabdebmgaa
