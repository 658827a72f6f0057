/-
  No cell of these rows narrows 'for every input' (looked for: loops, veiled, ifaces, maps, wideKeys, modest, calm, conditions, laid).
  DERIVED. THE GIVEN ROWS OF THIS SEAT. 9 by the template 'for every input the law returns true; each argument reads behind the call as it read before'; 0 by the template 'total and deterministic' (their statements: YtoifchmgdkiejaaTotals.lean).
  GIVEN WITH THE SEED: the statements are not yours to turn. If you find one false, say at which input.
  Laid BY PROGRAM, IN A SANDBOX (cutbox-rows.mjs): the forced cells as the released guide's own fill.sh prints them over the translation 71ce17294b273d30… (all of the seat's roots in one cut). By AI agents, Wed Nov 11 2026. No macro, syntax, notation, axiom, sorry.
-/
import Derived.Test.YtoifchmgdkiejaaChecked
import GoSem.Claim
import GoSem.ClaimJoined
import GoSem.ClaimMapViews
import Derived.JoinedTies
import Derived.KernelRfl
namespace Go.Proofs.Ytoifchmgdkiejaa
/- THE CELL 'sum', in the pinned program and in every row, IS THE sha256 OF THE DUMP (.gsa) THAT YtoifchmgdkiejaaProg.lean LOADS. Nothing in Lean hashes anything: it is a label: what it is worth is what the hold of that sum in a sandbox is worth. -/
noncomputable def Try.pinned : Pinned := { name := "ytoifchmgdkiejaa", sum := "71ce17294b273d30dac96cdcd6f78924e21d16c642a215529394fed5f3bf1f6d", checked := Try.checked }
namespace Rows
def none {H : Type} : Left H := { results := [], args := [] }

/-- 'laws.FnPath': WHATEVER THE INPUT: true; the input reads as it did. -/
def fnPathSpec : ChangeSpec := { name := "fnPath", fn := fun _ => fun
  | [d] => { results := [.lit (.bool true)], args := [d] }
  | _ => none }
def fnPathRow : OpenClaim := { program := "ytoifchmgdkiejaa", sum := "71ce17294b273d30dac96cdcd6f78924e21d16c642a215529394fed5f3bf1f6d", func := "loop.example/jackstay/laws.FnPath", spec := "fnPath", inPlace := ["internal/bytealg.IndexByteString"], unfollowed := true, recurses := true, apart := false }
def FnPathSaid : Prop := fnPathRow.holds Try.pinned (OpenSpec.ofChange fnPathSpec)

/-- ITS FALSE NEIGHBOUR: 'it returns false'. Refute it at one input. -/
def fnPathWrong : ChangeSpec := { name := "fnPath", fn := fun _ => fun
  | [d] => { results := [.lit (.bool false)], args := [d] }
  | _ => none }
def FnPathWrongFalsely : Prop := fnPathRow.holds Try.pinned (OpenSpec.ofChange fnPathWrong)

/-- 'laws.FnPathIn': WHATEVER THE INPUT: true; the input reads as it did. -/
def fnPathInSpec : ChangeSpec := { name := "fnPathIn", fn := fun _ => fun
  | [d] => { results := [.lit (.bool true)], args := [d] }
  | _ => none }
def fnPathInRow : OpenClaim := { program := "ytoifchmgdkiejaa", sum := "71ce17294b273d30dac96cdcd6f78924e21d16c642a215529394fed5f3bf1f6d", func := "loop.example/jackstay/laws.FnPathIn", spec := "fnPathIn", inPlace := ["internal/bytealg.IndexByteString"], unfollowed := true, recurses := true, apart := false }
def FnPathInSaid : Prop := fnPathInRow.holds Try.pinned (OpenSpec.ofChange fnPathInSpec)

/-- ITS FALSE NEIGHBOUR: 'it returns false'. Refute it at one input. -/
def fnPathInWrong : ChangeSpec := { name := "fnPathIn", fn := fun _ => fun
  | [d] => { results := [.lit (.bool false)], args := [d] }
  | _ => none }
def FnPathInWrongFalsely : Prop := fnPathInRow.holds Try.pinned (OpenSpec.ofChange fnPathInWrong)

/-- 'laws.FnPathMove': WHATEVER THE INPUT: true; the input reads as it did. -/
def fnPathMoveSpec : ChangeSpec := { name := "fnPathMove", fn := fun _ => fun
  | [d] => { results := [.lit (.bool true)], args := [d] }
  | _ => none }
def fnPathMoveRow : OpenClaim := { program := "ytoifchmgdkiejaa", sum := "71ce17294b273d30dac96cdcd6f78924e21d16c642a215529394fed5f3bf1f6d", func := "loop.example/jackstay/laws.FnPathMove", spec := "fnPathMove", inPlace := ["internal/bytealg.IndexByteString"], unfollowed := true, recurses := true, apart := false }
def FnPathMoveSaid : Prop := fnPathMoveRow.holds Try.pinned (OpenSpec.ofChange fnPathMoveSpec)

/-- ITS FALSE NEIGHBOUR: 'it returns false'. Refute it at one input. -/
def fnPathMoveWrong : ChangeSpec := { name := "fnPathMove", fn := fun _ => fun
  | [d] => { results := [.lit (.bool false)], args := [d] }
  | _ => none }
def FnPathMoveWrongFalsely : Prop := fnPathMoveRow.holds Try.pinned (OpenSpec.ofChange fnPathMoveWrong)

/-- 'laws.FnPathUps': WHATEVER THE INPUT: true; the input reads as it did. -/
def fnPathUpsSpec : ChangeSpec := { name := "fnPathUps", fn := fun _ => fun
  | [d] => { results := [.lit (.bool true)], args := [d] }
  | _ => none }
def fnPathUpsRow : OpenClaim := { program := "ytoifchmgdkiejaa", sum := "71ce17294b273d30dac96cdcd6f78924e21d16c642a215529394fed5f3bf1f6d", func := "loop.example/jackstay/laws.FnPathUps", spec := "fnPathUps", inPlace := ["internal/bytealg.IndexByteString"], unfollowed := true, recurses := true, apart := false }
def FnPathUpsSaid : Prop := fnPathUpsRow.holds Try.pinned (OpenSpec.ofChange fnPathUpsSpec)

/-- ITS FALSE NEIGHBOUR: 'it returns false'. Refute it at one input. -/
def fnPathUpsWrong : ChangeSpec := { name := "fnPathUps", fn := fun _ => fun
  | [d] => { results := [.lit (.bool false)], args := [d] }
  | _ => none }
def FnPathUpsWrongFalsely : Prop := fnPathUpsRow.holds Try.pinned (OpenSpec.ofChange fnPathUpsWrong)

/-- 'laws.FnExactPathOk': WHATEVER THE INPUT: true; the input reads as it did. -/
def fnExactPathOkSpec : ChangeSpec := { name := "fnExactPathOk", fn := fun _ => fun
  | [d] => { results := [.lit (.bool true)], args := [d] }
  | _ => none }
def fnExactPathOkRow : OpenClaim := { program := "ytoifchmgdkiejaa", sum := "71ce17294b273d30dac96cdcd6f78924e21d16c642a215529394fed5f3bf1f6d", func := "loop.example/jackstay/laws.FnExactPathOk", spec := "fnExactPathOk", inPlace := ["internal/bytealg.IndexByteString"], unfollowed := true, recurses := true, apart := false }
def FnExactPathOkSaid : Prop := fnExactPathOkRow.holds Try.pinned (OpenSpec.ofChange fnExactPathOkSpec)

/-- ITS FALSE NEIGHBOUR: 'it returns false'. Refute it at one input. -/
def fnExactPathOkWrong : ChangeSpec := { name := "fnExactPathOk", fn := fun _ => fun
  | [d] => { results := [.lit (.bool false)], args := [d] }
  | _ => none }
def FnExactPathOkWrongFalsely : Prop := fnExactPathOkRow.holds Try.pinned (OpenSpec.ofChange fnExactPathOkWrong)

/-- 'laws.FnExactPathUp': WHATEVER THE INPUT: true; the input reads as it did. -/
def fnExactPathUpSpec : ChangeSpec := { name := "fnExactPathUp", fn := fun _ => fun
  | [d] => { results := [.lit (.bool true)], args := [d] }
  | _ => none }
def fnExactPathUpRow : OpenClaim := { program := "ytoifchmgdkiejaa", sum := "71ce17294b273d30dac96cdcd6f78924e21d16c642a215529394fed5f3bf1f6d", func := "loop.example/jackstay/laws.FnExactPathUp", spec := "fnExactPathUp", inPlace := ["internal/bytealg.IndexByteString"], unfollowed := true, recurses := true, apart := false }
def FnExactPathUpSaid : Prop := fnExactPathUpRow.holds Try.pinned (OpenSpec.ofChange fnExactPathUpSpec)

/-- ITS FALSE NEIGHBOUR: 'it returns false'. Refute it at one input. -/
def fnExactPathUpWrong : ChangeSpec := { name := "fnExactPathUp", fn := fun _ => fun
  | [d] => { results := [.lit (.bool false)], args := [d] }
  | _ => none }
def FnExactPathUpWrongFalsely : Prop := fnExactPathUpRow.holds Try.pinned (OpenSpec.ofChange fnExactPathUpWrong)

/-- 'laws.FnExactPathLast': WHATEVER THE INPUT: true; the input reads as it did. -/
def fnExactPathLastSpec : ChangeSpec := { name := "fnExactPathLast", fn := fun _ => fun
  | [d] => { results := [.lit (.bool true)], args := [d] }
  | _ => none }
def fnExactPathLastRow : OpenClaim := { program := "ytoifchmgdkiejaa", sum := "71ce17294b273d30dac96cdcd6f78924e21d16c642a215529394fed5f3bf1f6d", func := "loop.example/jackstay/laws.FnExactPathLast", spec := "fnExactPathLast", inPlace := ["internal/bytealg.IndexByteString"], unfollowed := true, recurses := true, apart := false }
def FnExactPathLastSaid : Prop := fnExactPathLastRow.holds Try.pinned (OpenSpec.ofChange fnExactPathLastSpec)

/-- ITS FALSE NEIGHBOUR: 'it returns false'. Refute it at one input. -/
def fnExactPathLastWrong : ChangeSpec := { name := "fnExactPathLast", fn := fun _ => fun
  | [d] => { results := [.lit (.bool false)], args := [d] }
  | _ => none }
def FnExactPathLastWrongFalsely : Prop := fnExactPathLastRow.holds Try.pinned (OpenSpec.ofChange fnExactPathLastWrong)

/-- 'laws.FnExactPathIn': WHATEVER THE INPUT: true; the input reads as it did. -/
def fnExactPathInSpec : ChangeSpec := { name := "fnExactPathIn", fn := fun _ => fun
  | [d1, d2] => { results := [.lit (.bool true)], args := [d1, d2] }
  | _ => none }
def fnExactPathInRow : OpenClaim := { program := "ytoifchmgdkiejaa", sum := "71ce17294b273d30dac96cdcd6f78924e21d16c642a215529394fed5f3bf1f6d", func := "loop.example/jackstay/laws.FnExactPathIn", spec := "fnExactPathIn", inPlace := ["internal/bytealg.IndexByteString"], unfollowed := true, recurses := true, apart := false }
def FnExactPathInSaid : Prop := fnExactPathInRow.holds Try.pinned (OpenSpec.ofChange fnExactPathInSpec)

/-- ITS FALSE NEIGHBOUR: 'it returns false'. Refute it at one input. -/
def fnExactPathInWrong : ChangeSpec := { name := "fnExactPathIn", fn := fun _ => fun
  | [d1, d2] => { results := [.lit (.bool false)], args := [d1, d2] }
  | _ => none }
def FnExactPathInWrongFalsely : Prop := fnExactPathInRow.holds Try.pinned (OpenSpec.ofChange fnExactPathInWrong)

/-- 'laws.FnExactPathMove': WHATEVER THE INPUT: true; the input reads as it did. -/
def fnExactPathMoveSpec : ChangeSpec := { name := "fnExactPathMove", fn := fun _ => fun
  | [d1, d2, d3] => { results := [.lit (.bool true)], args := [d1, d2, d3] }
  | _ => none }
def fnExactPathMoveRow : OpenClaim := { program := "ytoifchmgdkiejaa", sum := "71ce17294b273d30dac96cdcd6f78924e21d16c642a215529394fed5f3bf1f6d", func := "loop.example/jackstay/laws.FnExactPathMove", spec := "fnExactPathMove", inPlace := ["internal/bytealg.IndexByteString"], unfollowed := true, recurses := true, apart := false }
def FnExactPathMoveSaid : Prop := fnExactPathMoveRow.holds Try.pinned (OpenSpec.ofChange fnExactPathMoveSpec)

/-- ITS FALSE NEIGHBOUR: 'it returns false'. Refute it at one input. -/
def fnExactPathMoveWrong : ChangeSpec := { name := "fnExactPathMove", fn := fun _ => fun
  | [d1, d2, d3] => { results := [.lit (.bool false)], args := [d1, d2, d3] }
  | _ => none }
def FnExactPathMoveWrongFalsely : Prop := fnExactPathMoveRow.holds Try.pinned (OpenSpec.ofChange fnExactPathMoveWrong)

/- THE SECOND FORM. 'bulk': how many values and letters a reading holds, each counted each time it is reached (what is shared counts as often as it is met; a slice's spare places count too). A statement '..UptoSaid' is the law's where the arguments, and the package variables that the reading takes, are together of bulk at most 1048576: NARROWER than '..Said'. Prove '..Said' where nothing that the law and all that it calls make is longer than what came in: it says more and counts as full. Else prove '..UptoSaid'. A law counts once. -/
mutual
def uptoBulk {H : Type} : DataW H → Nat
  | .lit (.string bytes) => bytes.length + 1
  | .lit _ => 1
  | .nil => 1
  | .ptr d => uptoBulk d + 1
  | .slice elems spare => uptoBulkAll elems + uptoBulkAll spare + 1
  | .agg parts => uptoBulkAll parts + 1
  | .iface _ d => uptoBulk d + 1
  | .map entries => uptoBulkEntries entries + 1
  | .held _ => 1
def uptoBulkAll {H : Type} : List (DataW H) → Nat
  | [] => 0
  | d :: r => uptoBulk d + uptoBulkAll r
def uptoBulkEntries {H : Type} : List (Lit × DataW H) → Nat
  | [] => 0
  | x :: r => uptoBulkEntry x + uptoBulkEntries r
def uptoBulkEntry {H : Type} : Lit × DataW H → Nat
  | (.string bytes, d) => bytes.length + uptoBulk d + 1
  | (_, d) => uptoBulk d + 1
 end
def uptoSmall : (H : Type) → List (DataW H) → Bool := fun _ ds => decide (uptoBulkAll ds ≤ 1048576)
def OpenSpec.upto (s : _root_.Go.ChangeSpec) : _root_.Go.OpenSpec := { _root_.Go.OpenSpec.ofChange s with cond := some uptoSmall }

/-- 'laws.FnPath', WHERE WHAT IT READS IS OF BULK AT MOST 1048576: true; the input reads as it did. -/
def fnPathUptoRow : OpenClaim := { program := "ytoifchmgdkiejaa", sum := "71ce17294b273d30dac96cdcd6f78924e21d16c642a215529394fed5f3bf1f6d", func := "loop.example/jackstay/laws.FnPath", spec := "fnPath", inPlace := ["internal/bytealg.IndexByteString"], unfollowed := true, recurses := true, apart := false, narrowed := true }
def FnPathUptoSaid : Prop := fnPathUptoRow.holds Try.pinned (OpenSpec.upto fnPathSpec)

/-- 'laws.FnPathIn', WHERE WHAT IT READS IS OF BULK AT MOST 1048576: true; the input reads as it did. -/
def fnPathInUptoRow : OpenClaim := { program := "ytoifchmgdkiejaa", sum := "71ce17294b273d30dac96cdcd6f78924e21d16c642a215529394fed5f3bf1f6d", func := "loop.example/jackstay/laws.FnPathIn", spec := "fnPathIn", inPlace := ["internal/bytealg.IndexByteString"], unfollowed := true, recurses := true, apart := false, narrowed := true }
def FnPathInUptoSaid : Prop := fnPathInUptoRow.holds Try.pinned (OpenSpec.upto fnPathInSpec)

/-- 'laws.FnPathMove', WHERE WHAT IT READS IS OF BULK AT MOST 1048576: true; the input reads as it did. -/
def fnPathMoveUptoRow : OpenClaim := { program := "ytoifchmgdkiejaa", sum := "71ce17294b273d30dac96cdcd6f78924e21d16c642a215529394fed5f3bf1f6d", func := "loop.example/jackstay/laws.FnPathMove", spec := "fnPathMove", inPlace := ["internal/bytealg.IndexByteString"], unfollowed := true, recurses := true, apart := false, narrowed := true }
def FnPathMoveUptoSaid : Prop := fnPathMoveUptoRow.holds Try.pinned (OpenSpec.upto fnPathMoveSpec)

/-- 'laws.FnPathUps', WHERE WHAT IT READS IS OF BULK AT MOST 1048576: true; the input reads as it did. -/
def fnPathUpsUptoRow : OpenClaim := { program := "ytoifchmgdkiejaa", sum := "71ce17294b273d30dac96cdcd6f78924e21d16c642a215529394fed5f3bf1f6d", func := "loop.example/jackstay/laws.FnPathUps", spec := "fnPathUps", inPlace := ["internal/bytealg.IndexByteString"], unfollowed := true, recurses := true, apart := false, narrowed := true }
def FnPathUpsUptoSaid : Prop := fnPathUpsUptoRow.holds Try.pinned (OpenSpec.upto fnPathUpsSpec)

/-- 'laws.FnExactPathOk', WHERE WHAT IT READS IS OF BULK AT MOST 1048576: true; the input reads as it did. -/
def fnExactPathOkUptoRow : OpenClaim := { program := "ytoifchmgdkiejaa", sum := "71ce17294b273d30dac96cdcd6f78924e21d16c642a215529394fed5f3bf1f6d", func := "loop.example/jackstay/laws.FnExactPathOk", spec := "fnExactPathOk", inPlace := ["internal/bytealg.IndexByteString"], unfollowed := true, recurses := true, apart := false, narrowed := true }
def FnExactPathOkUptoSaid : Prop := fnExactPathOkUptoRow.holds Try.pinned (OpenSpec.upto fnExactPathOkSpec)

/-- 'laws.FnExactPathUp', WHERE WHAT IT READS IS OF BULK AT MOST 1048576: true; the input reads as it did. -/
def fnExactPathUpUptoRow : OpenClaim := { program := "ytoifchmgdkiejaa", sum := "71ce17294b273d30dac96cdcd6f78924e21d16c642a215529394fed5f3bf1f6d", func := "loop.example/jackstay/laws.FnExactPathUp", spec := "fnExactPathUp", inPlace := ["internal/bytealg.IndexByteString"], unfollowed := true, recurses := true, apart := false, narrowed := true }
def FnExactPathUpUptoSaid : Prop := fnExactPathUpUptoRow.holds Try.pinned (OpenSpec.upto fnExactPathUpSpec)

/-- 'laws.FnExactPathLast', WHERE WHAT IT READS IS OF BULK AT MOST 1048576: true; the input reads as it did. -/
def fnExactPathLastUptoRow : OpenClaim := { program := "ytoifchmgdkiejaa", sum := "71ce17294b273d30dac96cdcd6f78924e21d16c642a215529394fed5f3bf1f6d", func := "loop.example/jackstay/laws.FnExactPathLast", spec := "fnExactPathLast", inPlace := ["internal/bytealg.IndexByteString"], unfollowed := true, recurses := true, apart := false, narrowed := true }
def FnExactPathLastUptoSaid : Prop := fnExactPathLastUptoRow.holds Try.pinned (OpenSpec.upto fnExactPathLastSpec)

/-- 'laws.FnExactPathIn', WHERE WHAT IT READS IS OF BULK AT MOST 1048576: true; the input reads as it did. -/
def fnExactPathInUptoRow : OpenClaim := { program := "ytoifchmgdkiejaa", sum := "71ce17294b273d30dac96cdcd6f78924e21d16c642a215529394fed5f3bf1f6d", func := "loop.example/jackstay/laws.FnExactPathIn", spec := "fnExactPathIn", inPlace := ["internal/bytealg.IndexByteString"], unfollowed := true, recurses := true, apart := false, narrowed := true }
def FnExactPathInUptoSaid : Prop := fnExactPathInUptoRow.holds Try.pinned (OpenSpec.upto fnExactPathInSpec)

/-- 'laws.FnExactPathMove', WHERE WHAT IT READS IS OF BULK AT MOST 1048576: true; the input reads as it did. -/
def fnExactPathMoveUptoRow : OpenClaim := { program := "ytoifchmgdkiejaa", sum := "71ce17294b273d30dac96cdcd6f78924e21d16c642a215529394fed5f3bf1f6d", func := "loop.example/jackstay/laws.FnExactPathMove", spec := "fnExactPathMove", inPlace := ["internal/bytealg.IndexByteString"], unfollowed := true, recurses := true, apart := false, narrowed := true }
def FnExactPathMoveUptoSaid : Prop := fnExactPathMoveUptoRow.holds Try.pinned (OpenSpec.upto fnExactPathMoveSpec)

end Rows
end Go.Proofs.Ytoifchmgdkiejaa
