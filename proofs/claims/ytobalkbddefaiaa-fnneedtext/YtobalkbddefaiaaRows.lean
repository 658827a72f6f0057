/-
  No cell of these rows narrows 'for every input' (looked for: loops, veiled, ifaces, maps, wideKeys, modest, calm, conditions, laid).
  DERIVED. THE GIVEN ROWS OF THIS SEAT. 4 by the template 'for every input the law returns true; each argument reads behind the call as it read before'; 0 by the template 'total and deterministic' (their statements: YtobalkbddefaiaaTotals.lean).
  GIVEN WITH THE SEED: the statements are not yours to turn. If you find one false, say at which input.
  Laid BY PROGRAM, IN A SANDBOX (cutbox-rows.mjs): the forced cells as the released guide's own fill.sh prints them over the translation c5be4ea5df451ba3… (all of the seat's roots in one cut). By AI agents, Wed Nov 11 2026. No macro, syntax, notation, axiom, sorry.
-/
import Derived.Test.YtobalkbddefaiaaChecked
import GoSem.Claim
import GoSem.ClaimJoined
import GoSem.ClaimMapViews
import Derived.JoinedTies
import Derived.KernelRfl
namespace Go.Proofs.Ytobalkbddefaiaa
/- THE CELL 'sum', in the pinned program and in every row, IS THE sha256 OF THE DUMP (.gsa) THAT YtobalkbddefaiaaProg.lean LOADS. Nothing in Lean hashes anything: it is a label: what it is worth is what the hold of that sum in a sandbox is worth. -/
noncomputable def Try.pinned : Pinned := { name := "ytobalkbddefaiaa", sum := "c5be4ea5df451ba38d628d31f823c9c784a583ddb9fa16c900d4cd2e825b9f3c", checked := Try.checked }
namespace Rows
def none {H : Type} : Left H := { results := [], args := [] }

/-- 'laws.FnVersionOrder': WHATEVER THE INPUT: true; the input reads as it did. -/
def fnVersionOrderSpec : ChangeSpec := { name := "fnVersionOrder", fn := fun _ => fun
  | [d1, d2] => { results := [.lit (.bool true)], args := [d1, d2] }
  | _ => none }
def fnVersionOrderRow : OpenClaim := { program := "ytobalkbddefaiaa", sum := "c5be4ea5df451ba38d628d31f823c9c784a583ddb9fa16c900d4cd2e825b9f3c", func := "loop.example/jackstay/laws.FnVersionOrder", spec := "fnVersionOrder", inPlace := ["internal/bytealg.IndexByteString"], unfollowed := true, recurses := true, apart := false }
def FnVersionOrderSaid : Prop := fnVersionOrderRow.holds Try.pinned (OpenSpec.ofChange fnVersionOrderSpec)

/-- ITS FALSE NEIGHBOUR: 'it returns false'. Refute it at one input. -/
def fnVersionOrderWrong : ChangeSpec := { name := "fnVersionOrder", fn := fun _ => fun
  | [d1, d2] => { results := [.lit (.bool false)], args := [d1, d2] }
  | _ => none }
def FnVersionOrderWrongFalsely : Prop := fnVersionOrderRow.holds Try.pinned (OpenSpec.ofChange fnVersionOrderWrong)

/-- 'laws.FnVersionKnown': WHATEVER THE INPUT: true; the input reads as it did. -/
def fnVersionKnownSpec : ChangeSpec := { name := "fnVersionKnown", fn := fun _ => fun
  | [d] => { results := [.lit (.bool true)], args := [d] }
  | _ => none }
def fnVersionKnownRow : OpenClaim := { program := "ytobalkbddefaiaa", sum := "c5be4ea5df451ba38d628d31f823c9c784a583ddb9fa16c900d4cd2e825b9f3c", func := "loop.example/jackstay/laws.FnVersionKnown", spec := "fnVersionKnown", inPlace := ["internal/bytealg.IndexByteString"], unfollowed := true, recurses := true, apart := false }
def FnVersionKnownSaid : Prop := fnVersionKnownRow.holds Try.pinned (OpenSpec.ofChange fnVersionKnownSpec)

/-- ITS FALSE NEIGHBOUR: 'it returns false'. Refute it at one input. -/
def fnVersionKnownWrong : ChangeSpec := { name := "fnVersionKnown", fn := fun _ => fun
  | [d] => { results := [.lit (.bool false)], args := [d] }
  | _ => none }
def FnVersionKnownWrongFalsely : Prop := fnVersionKnownRow.holds Try.pinned (OpenSpec.ofChange fnVersionKnownWrong)

/-- 'laws.FnNeedText': WHATEVER THE INPUT: true; the input reads as it did. -/
def fnNeedTextSpec : ChangeSpec := { name := "fnNeedText", fn := fun _ => fun
  | [d1, d2] => { results := [.lit (.bool true)], args := [d1, d2] }
  | _ => none }
def fnNeedTextRow : OpenClaim := { program := "ytobalkbddefaiaa", sum := "c5be4ea5df451ba38d628d31f823c9c784a583ddb9fa16c900d4cd2e825b9f3c", func := "loop.example/jackstay/laws.FnNeedText", spec := "fnNeedText", inPlace := ["internal/bytealg.IndexByteString"], unfollowed := true, recurses := true, apart := false }
def FnNeedTextSaid : Prop := fnNeedTextRow.holds Try.pinned (OpenSpec.ofChange fnNeedTextSpec)

/-- ITS FALSE NEIGHBOUR: 'it returns false'. Refute it at one input. -/
def fnNeedTextWrong : ChangeSpec := { name := "fnNeedText", fn := fun _ => fun
  | [d1, d2] => { results := [.lit (.bool false)], args := [d1, d2] }
  | _ => none }
def FnNeedTextWrongFalsely : Prop := fnNeedTextRow.holds Try.pinned (OpenSpec.ofChange fnNeedTextWrong)

/-- 'laws.FnNeedOther': WHATEVER THE INPUT: true; the input reads as it did. -/
def fnNeedOtherSpec : ChangeSpec := { name := "fnNeedOther", fn := fun _ => fun
  | [d] => { results := [.lit (.bool true)], args := [d] }
  | _ => none }
def fnNeedOtherRow : OpenClaim := { program := "ytobalkbddefaiaa", sum := "c5be4ea5df451ba38d628d31f823c9c784a583ddb9fa16c900d4cd2e825b9f3c", func := "loop.example/jackstay/laws.FnNeedOther", spec := "fnNeedOther", inPlace := ["internal/bytealg.IndexByteString"], unfollowed := true, recurses := true, apart := false }
def FnNeedOtherSaid : Prop := fnNeedOtherRow.holds Try.pinned (OpenSpec.ofChange fnNeedOtherSpec)

/-- ITS FALSE NEIGHBOUR: 'it returns false'. Refute it at one input. -/
def fnNeedOtherWrong : ChangeSpec := { name := "fnNeedOther", fn := fun _ => fun
  | [d] => { results := [.lit (.bool false)], args := [d] }
  | _ => none }
def FnNeedOtherWrongFalsely : Prop := fnNeedOtherRow.holds Try.pinned (OpenSpec.ofChange fnNeedOtherWrong)

/- THE SECOND FORM. 'bulk': how many values and letters a reading holds, each counted each time it is reached (what is shared counts as often as it is met; a slice's spare places count too). A statement '..UptoSaid' is the law's where the arguments, and the package variables that the reading takes, are together of bulk at most 1048576: NARROWER than '..Said'. Prove '..Said' where nothing that the law and all that it calls make is longer than what came in: it says more and counts as full. Else prove '..UptoSaid'. A law counts once. -/
mutual
def uptoBulk {H : Type} : DataW H → Nat
  | .lit (.string bytes) => bytes.length + 1
  | .lit _ => 1
  | .nil => 1
  | .ptr d => uptoBulk d + 1
  | .slice elems spare => uptoBulkAll elems + uptoBulkAll spare + 1
  | .agg parts => uptoBulkAll parts + 1
  | .iface _ d => uptoBulk d + 1
  | .map entries => uptoBulkEntries entries + 1
  | .held _ => 1
def uptoBulkAll {H : Type} : List (DataW H) → Nat
  | [] => 0
  | d :: r => uptoBulk d + uptoBulkAll r
def uptoBulkEntries {H : Type} : List (Lit × DataW H) → Nat
  | [] => 0
  | x :: r => uptoBulkEntry x + uptoBulkEntries r
def uptoBulkEntry {H : Type} : Lit × DataW H → Nat
  | (.string bytes, d) => bytes.length + uptoBulk d + 1
  | (_, d) => uptoBulk d + 1
 end
def uptoSmall : (H : Type) → List (DataW H) → Bool := fun _ ds => decide (uptoBulkAll ds ≤ 1048576)
def OpenSpec.upto (s : _root_.Go.ChangeSpec) : _root_.Go.OpenSpec := { _root_.Go.OpenSpec.ofChange s with cond := some uptoSmall }

/-- 'laws.FnVersionOrder', WHERE WHAT IT READS IS OF BULK AT MOST 1048576: true; the input reads as it did. -/
def fnVersionOrderUptoRow : OpenClaim := { program := "ytobalkbddefaiaa", sum := "c5be4ea5df451ba38d628d31f823c9c784a583ddb9fa16c900d4cd2e825b9f3c", func := "loop.example/jackstay/laws.FnVersionOrder", spec := "fnVersionOrder", inPlace := ["internal/bytealg.IndexByteString"], unfollowed := true, recurses := true, apart := false, narrowed := true }
def FnVersionOrderUptoSaid : Prop := fnVersionOrderUptoRow.holds Try.pinned (OpenSpec.upto fnVersionOrderSpec)

/-- 'laws.FnVersionKnown', WHERE WHAT IT READS IS OF BULK AT MOST 1048576: true; the input reads as it did. -/
def fnVersionKnownUptoRow : OpenClaim := { program := "ytobalkbddefaiaa", sum := "c5be4ea5df451ba38d628d31f823c9c784a583ddb9fa16c900d4cd2e825b9f3c", func := "loop.example/jackstay/laws.FnVersionKnown", spec := "fnVersionKnown", inPlace := ["internal/bytealg.IndexByteString"], unfollowed := true, recurses := true, apart := false, narrowed := true }
def FnVersionKnownUptoSaid : Prop := fnVersionKnownUptoRow.holds Try.pinned (OpenSpec.upto fnVersionKnownSpec)

/-- 'laws.FnNeedText', WHERE WHAT IT READS IS OF BULK AT MOST 1048576: true; the input reads as it did. -/
def fnNeedTextUptoRow : OpenClaim := { program := "ytobalkbddefaiaa", sum := "c5be4ea5df451ba38d628d31f823c9c784a583ddb9fa16c900d4cd2e825b9f3c", func := "loop.example/jackstay/laws.FnNeedText", spec := "fnNeedText", inPlace := ["internal/bytealg.IndexByteString"], unfollowed := true, recurses := true, apart := false, narrowed := true }
def FnNeedTextUptoSaid : Prop := fnNeedTextUptoRow.holds Try.pinned (OpenSpec.upto fnNeedTextSpec)

/-- 'laws.FnNeedOther', WHERE WHAT IT READS IS OF BULK AT MOST 1048576: true; the input reads as it did. -/
def fnNeedOtherUptoRow : OpenClaim := { program := "ytobalkbddefaiaa", sum := "c5be4ea5df451ba38d628d31f823c9c784a583ddb9fa16c900d4cd2e825b9f3c", func := "loop.example/jackstay/laws.FnNeedOther", spec := "fnNeedOther", inPlace := ["internal/bytealg.IndexByteString"], unfollowed := true, recurses := true, apart := false, narrowed := true }
def FnNeedOtherUptoSaid : Prop := fnNeedOtherUptoRow.holds Try.pinned (OpenSpec.upto fnNeedOtherSpec)

end Rows
end Go.Proofs.Ytobalkbddefaiaa
