/-
  No cell of these rows narrows 'for every input' (looked for: loops, veiled, ifaces, maps, wideKeys, modest, calm, conditions, laid).
  DERIVED. THE GIVEN ROWS OF THIS SEAT. 10 by the template 'for every input the law returns true; each argument reads behind the call as it read before'; 0 by the template 'total and deterministic' (their statements: YtlnehebihfeegaaTotals.lean).
  GIVEN WITH THE SEED: the statements are not yours to turn. If you find one false, say at which input.
  Laid BY PROGRAM, IN A SANDBOX (cutbox-rows.mjs): the forced cells as the released guide's own fill.sh prints them over the translation b6cb517ef300b4b7… (all of the seat's roots in one cut). By AI agents, Wed Nov 11 2026. No macro, syntax, notation, axiom, sorry.
-/
import Derived.Test.YtlnehebihfeegaaChecked
import GoSem.Claim
import GoSem.ClaimJoined
import GoSem.ClaimMapViews
import Derived.JoinedTies
import Derived.KernelRfl
namespace Go.Proofs.Ytlnehebihfeegaa
/- THE CELL 'sum', in the pinned program and in every row, IS THE sha256 OF THE DUMP (.gsa) THAT YtlnehebihfeegaaProg.lean LOADS. Nothing in Lean hashes anything: it is a label: what it is worth is what the hold of that sum in a sandbox is worth. -/
noncomputable def Try.pinned : Pinned := { name := "ytlnehebihfeegaa", sum := "b6cb517ef300b4b756f008d497b3a55f8b8cfdf7bef19966a95ff0453613891d", checked := Try.checked }
namespace Rows
def none {H : Type} : Left H := { results := [], args := [] }

/-- 'laws.FnTreeLink': WHATEVER THE INPUT: true; the input reads as it did. -/
def fnTreeLinkSpec : ChangeSpec := { name := "fnTreeLink", fn := fun _ => fun
  | [d] => { results := [.lit (.bool true)], args := [d] }
  | _ => none }
def fnTreeLinkRow : OpenClaim := { program := "ytlnehebihfeegaa", sum := "b6cb517ef300b4b756f008d497b3a55f8b8cfdf7bef19966a95ff0453613891d", func := "loop.example/jackstay/laws.FnTreeLink", spec := "fnTreeLink", inPlace := ["internal/bytealg.IndexByteString", "slices.overlaps[string]", "slices.overlaps[loop.example/jackstay/impl.node]"], unfollowed := true, recurses := true, apart := false }
def FnTreeLinkSaid : Prop := fnTreeLinkRow.holds Try.pinned (OpenSpec.ofChange fnTreeLinkSpec)

/-- ITS FALSE NEIGHBOUR: 'it returns false'. Refute it at one input. -/
def fnTreeLinkWrong : ChangeSpec := { name := "fnTreeLink", fn := fun _ => fun
  | [d] => { results := [.lit (.bool false)], args := [d] }
  | _ => none }
def FnTreeLinkWrongFalsely : Prop := fnTreeLinkRow.holds Try.pinned (OpenSpec.ofChange fnTreeLinkWrong)

/-- 'laws.FnTreeMoveIn': WHATEVER THE INPUT: true; the input reads as it did. -/
def fnTreeMoveInSpec : ChangeSpec := { name := "fnTreeMoveIn", fn := fun _ => fun
  | [d] => { results := [.lit (.bool true)], args := [d] }
  | _ => none }
def fnTreeMoveInRow : OpenClaim := { program := "ytlnehebihfeegaa", sum := "b6cb517ef300b4b756f008d497b3a55f8b8cfdf7bef19966a95ff0453613891d", func := "loop.example/jackstay/laws.FnTreeMoveIn", spec := "fnTreeMoveIn", inPlace := ["internal/bytealg.IndexByteString", "slices.overlaps[string]", "slices.overlaps[loop.example/jackstay/impl.node]"], unfollowed := true, recurses := true, apart := false }
def FnTreeMoveInSaid : Prop := fnTreeMoveInRow.holds Try.pinned (OpenSpec.ofChange fnTreeMoveInSpec)

/-- ITS FALSE NEIGHBOUR: 'it returns false'. Refute it at one input. -/
def fnTreeMoveInWrong : ChangeSpec := { name := "fnTreeMoveIn", fn := fun _ => fun
  | [d] => { results := [.lit (.bool false)], args := [d] }
  | _ => none }
def FnTreeMoveInWrongFalsely : Prop := fnTreeMoveInRow.holds Try.pinned (OpenSpec.ofChange fnTreeMoveInWrong)

/-- 'laws.FnExactTreeOk': WHATEVER THE INPUT: true; the input reads as it did. -/
def fnExactTreeOkSpec : ChangeSpec := { name := "fnExactTreeOk", fn := fun _ => fun
  | [d] => { results := [.lit (.bool true)], args := [d] }
  | _ => none }
def fnExactTreeOkRow : OpenClaim := { program := "ytlnehebihfeegaa", sum := "b6cb517ef300b4b756f008d497b3a55f8b8cfdf7bef19966a95ff0453613891d", func := "loop.example/jackstay/laws.FnExactTreeOk", spec := "fnExactTreeOk", inPlace := ["internal/bytealg.IndexByteString", "slices.overlaps[string]", "slices.overlaps[loop.example/jackstay/impl.node]"], unfollowed := true, recurses := true, apart := false }
def FnExactTreeOkSaid : Prop := fnExactTreeOkRow.holds Try.pinned (OpenSpec.ofChange fnExactTreeOkSpec)

/-- ITS FALSE NEIGHBOUR: 'it returns false'. Refute it at one input. -/
def fnExactTreeOkWrong : ChangeSpec := { name := "fnExactTreeOk", fn := fun _ => fun
  | [d] => { results := [.lit (.bool false)], args := [d] }
  | _ => none }
def FnExactTreeOkWrongFalsely : Prop := fnExactTreeOkRow.holds Try.pinned (OpenSpec.ofChange fnExactTreeOkWrong)

/-- 'laws.FnExactTreeGet': WHATEVER THE INPUT: true; the input reads as it did. -/
def fnExactTreeGetSpec : ChangeSpec := { name := "fnExactTreeGet", fn := fun _ => fun
  | [d1, d2] => { results := [.lit (.bool true)], args := [d1, d2] }
  | _ => none }
def fnExactTreeGetRow : OpenClaim := { program := "ytlnehebihfeegaa", sum := "b6cb517ef300b4b756f008d497b3a55f8b8cfdf7bef19966a95ff0453613891d", func := "loop.example/jackstay/laws.FnExactTreeGet", spec := "fnExactTreeGet", inPlace := ["internal/bytealg.IndexByteString", "slices.overlaps[string]", "slices.overlaps[loop.example/jackstay/impl.node]"], unfollowed := true, recurses := true, apart := false }
def FnExactTreeGetSaid : Prop := fnExactTreeGetRow.holds Try.pinned (OpenSpec.ofChange fnExactTreeGetSpec)

/-- ITS FALSE NEIGHBOUR: 'it returns false'. Refute it at one input. -/
def fnExactTreeGetWrong : ChangeSpec := { name := "fnExactTreeGet", fn := fun _ => fun
  | [d1, d2] => { results := [.lit (.bool false)], args := [d1, d2] }
  | _ => none }
def FnExactTreeGetWrongFalsely : Prop := fnExactTreeGetRow.holds Try.pinned (OpenSpec.ofChange fnExactTreeGetWrong)

/-- 'laws.FnExactTreePut': WHATEVER THE INPUT: true; the input reads as it did. -/
def fnExactTreePutSpec : ChangeSpec := { name := "fnExactTreePut", fn := fun _ => fun
  | [d1, d2] => { results := [.lit (.bool true)], args := [d1, d2] }
  | _ => none }
def fnExactTreePutRow : OpenClaim := { program := "ytlnehebihfeegaa", sum := "b6cb517ef300b4b756f008d497b3a55f8b8cfdf7bef19966a95ff0453613891d", func := "loop.example/jackstay/laws.FnExactTreePut", spec := "fnExactTreePut", inPlace := ["internal/bytealg.IndexByteString", "slices.overlaps[string]", "slices.overlaps[loop.example/jackstay/impl.node]"], unfollowed := true, recurses := true, apart := false }
def FnExactTreePutSaid : Prop := fnExactTreePutRow.holds Try.pinned (OpenSpec.ofChange fnExactTreePutSpec)

/-- ITS FALSE NEIGHBOUR: 'it returns false'. Refute it at one input. -/
def fnExactTreePutWrong : ChangeSpec := { name := "fnExactTreePut", fn := fun _ => fun
  | [d1, d2] => { results := [.lit (.bool false)], args := [d1, d2] }
  | _ => none }
def FnExactTreePutWrongFalsely : Prop := fnExactTreePutRow.holds Try.pinned (OpenSpec.ofChange fnExactTreePutWrong)

/-- 'laws.FnExactTreeDrop': WHATEVER THE INPUT: true; the input reads as it did. -/
def fnExactTreeDropSpec : ChangeSpec := { name := "fnExactTreeDrop", fn := fun _ => fun
  | [d1, d2] => { results := [.lit (.bool true)], args := [d1, d2] }
  | _ => none }
def fnExactTreeDropRow : OpenClaim := { program := "ytlnehebihfeegaa", sum := "b6cb517ef300b4b756f008d497b3a55f8b8cfdf7bef19966a95ff0453613891d", func := "loop.example/jackstay/laws.FnExactTreeDrop", spec := "fnExactTreeDrop", inPlace := ["internal/bytealg.IndexByteString", "slices.overlaps[string]", "slices.overlaps[loop.example/jackstay/impl.node]"], unfollowed := true, recurses := true, apart := false }
def FnExactTreeDropSaid : Prop := fnExactTreeDropRow.holds Try.pinned (OpenSpec.ofChange fnExactTreeDropSpec)

/-- ITS FALSE NEIGHBOUR: 'it returns false'. Refute it at one input. -/
def fnExactTreeDropWrong : ChangeSpec := { name := "fnExactTreeDrop", fn := fun _ => fun
  | [d1, d2] => { results := [.lit (.bool false)], args := [d1, d2] }
  | _ => none }
def FnExactTreeDropWrongFalsely : Prop := fnExactTreeDropRow.holds Try.pinned (OpenSpec.ofChange fnExactTreeDropWrong)

/-- 'laws.FnExactTreeMove': WHATEVER THE INPUT: true; the input reads as it did. -/
def fnExactTreeMoveSpec : ChangeSpec := { name := "fnExactTreeMove", fn := fun _ => fun
  | [d1, d2, d3] => { results := [.lit (.bool true)], args := [d1, d2, d3] }
  | _ => none }
def fnExactTreeMoveRow : OpenClaim := { program := "ytlnehebihfeegaa", sum := "b6cb517ef300b4b756f008d497b3a55f8b8cfdf7bef19966a95ff0453613891d", func := "loop.example/jackstay/laws.FnExactTreeMove", spec := "fnExactTreeMove", inPlace := ["internal/bytealg.IndexByteString", "slices.overlaps[string]", "slices.overlaps[loop.example/jackstay/impl.node]"], unfollowed := true, recurses := true, apart := false }
def FnExactTreeMoveSaid : Prop := fnExactTreeMoveRow.holds Try.pinned (OpenSpec.ofChange fnExactTreeMoveSpec)

/-- ITS FALSE NEIGHBOUR: 'it returns false'. Refute it at one input. -/
def fnExactTreeMoveWrong : ChangeSpec := { name := "fnExactTreeMove", fn := fun _ => fun
  | [d1, d2, d3] => { results := [.lit (.bool false)], args := [d1, d2, d3] }
  | _ => none }
def FnExactTreeMoveWrongFalsely : Prop := fnExactTreeMoveRow.holds Try.pinned (OpenSpec.ofChange fnExactTreeMoveWrong)

/-- 'laws.FnExactTreeJoin': WHATEVER THE INPUT: true; the input reads as it did. -/
def fnExactTreeJoinSpec : ChangeSpec := { name := "fnExactTreeJoin", fn := fun _ => fun
  | [d1, d2] => { results := [.lit (.bool true)], args := [d1, d2] }
  | _ => none }
def fnExactTreeJoinRow : OpenClaim := { program := "ytlnehebihfeegaa", sum := "b6cb517ef300b4b756f008d497b3a55f8b8cfdf7bef19966a95ff0453613891d", func := "loop.example/jackstay/laws.FnExactTreeJoin", spec := "fnExactTreeJoin", inPlace := ["internal/bytealg.IndexByteString", "slices.overlaps[string]", "slices.overlaps[loop.example/jackstay/impl.node]"], unfollowed := true, recurses := true, apart := false }
def FnExactTreeJoinSaid : Prop := fnExactTreeJoinRow.holds Try.pinned (OpenSpec.ofChange fnExactTreeJoinSpec)

/-- ITS FALSE NEIGHBOUR: 'it returns false'. Refute it at one input. -/
def fnExactTreeJoinWrong : ChangeSpec := { name := "fnExactTreeJoin", fn := fun _ => fun
  | [d1, d2] => { results := [.lit (.bool false)], args := [d1, d2] }
  | _ => none }
def FnExactTreeJoinWrongFalsely : Prop := fnExactTreeJoinRow.holds Try.pinned (OpenSpec.ofChange fnExactTreeJoinWrong)

/-- 'laws.FnExactTreePart': WHATEVER THE INPUT: true; the input reads as it did. -/
def fnExactTreePartSpec : ChangeSpec := { name := "fnExactTreePart", fn := fun _ => fun
  | [d1, d2] => { results := [.lit (.bool true)], args := [d1, d2] }
  | _ => none }
def fnExactTreePartRow : OpenClaim := { program := "ytlnehebihfeegaa", sum := "b6cb517ef300b4b756f008d497b3a55f8b8cfdf7bef19966a95ff0453613891d", func := "loop.example/jackstay/laws.FnExactTreePart", spec := "fnExactTreePart", inPlace := ["internal/bytealg.IndexByteString", "slices.overlaps[string]", "slices.overlaps[loop.example/jackstay/impl.node]"], unfollowed := true, recurses := true, apart := false }
def FnExactTreePartSaid : Prop := fnExactTreePartRow.holds Try.pinned (OpenSpec.ofChange fnExactTreePartSpec)

/-- ITS FALSE NEIGHBOUR: 'it returns false'. Refute it at one input. -/
def fnExactTreePartWrong : ChangeSpec := { name := "fnExactTreePart", fn := fun _ => fun
  | [d1, d2] => { results := [.lit (.bool false)], args := [d1, d2] }
  | _ => none }
def FnExactTreePartWrongFalsely : Prop := fnExactTreePartRow.holds Try.pinned (OpenSpec.ofChange fnExactTreePartWrong)

/-- 'laws.FnExactTreeFollow': WHATEVER THE INPUT: true; the input reads as it did. -/
def fnExactTreeFollowSpec : ChangeSpec := { name := "fnExactTreeFollow", fn := fun _ => fun
  | [d1, d2] => { results := [.lit (.bool true)], args := [d1, d2] }
  | _ => none }
def fnExactTreeFollowRow : OpenClaim := { program := "ytlnehebihfeegaa", sum := "b6cb517ef300b4b756f008d497b3a55f8b8cfdf7bef19966a95ff0453613891d", func := "loop.example/jackstay/laws.FnExactTreeFollow", spec := "fnExactTreeFollow", inPlace := ["internal/bytealg.IndexByteString", "slices.overlaps[string]", "slices.overlaps[loop.example/jackstay/impl.node]"], unfollowed := true, recurses := true, apart := false }
def FnExactTreeFollowSaid : Prop := fnExactTreeFollowRow.holds Try.pinned (OpenSpec.ofChange fnExactTreeFollowSpec)

/-- ITS FALSE NEIGHBOUR: 'it returns false'. Refute it at one input. -/
def fnExactTreeFollowWrong : ChangeSpec := { name := "fnExactTreeFollow", fn := fun _ => fun
  | [d1, d2] => { results := [.lit (.bool false)], args := [d1, d2] }
  | _ => none }
def FnExactTreeFollowWrongFalsely : Prop := fnExactTreeFollowRow.holds Try.pinned (OpenSpec.ofChange fnExactTreeFollowWrong)

/- THE SECOND FORM. 'bulk': how many values and letters a reading holds, each counted each time it is reached (what is shared counts as often as it is met; a slice's spare places count too). A statement '..UptoSaid' is the law's where the arguments, and the package variables that the reading takes, are together of bulk at most 1048576: NARROWER than '..Said'. Prove '..Said' where nothing that the law and all that it calls make is longer than what came in: it says more and counts as full. Else prove '..UptoSaid'. A law counts once. -/
mutual
def uptoBulk {H : Type} : DataW H → Nat
  | .lit (.string bytes) => bytes.length + 1
  | .lit _ => 1
  | .nil => 1
  | .ptr d => uptoBulk d + 1
  | .slice elems spare => uptoBulkAll elems + uptoBulkAll spare + 1
  | .agg parts => uptoBulkAll parts + 1
  | .iface _ d => uptoBulk d + 1
  | .map entries => uptoBulkEntries entries + 1
  | .held _ => 1
def uptoBulkAll {H : Type} : List (DataW H) → Nat
  | [] => 0
  | d :: r => uptoBulk d + uptoBulkAll r
def uptoBulkEntries {H : Type} : List (Lit × DataW H) → Nat
  | [] => 0
  | x :: r => uptoBulkEntry x + uptoBulkEntries r
def uptoBulkEntry {H : Type} : Lit × DataW H → Nat
  | (.string bytes, d) => bytes.length + uptoBulk d + 1
  | (_, d) => uptoBulk d + 1
 end
def uptoSmall : (H : Type) → List (DataW H) → Bool := fun _ ds => decide (uptoBulkAll ds ≤ 1048576)
def OpenSpec.upto (s : _root_.Go.ChangeSpec) : _root_.Go.OpenSpec := { _root_.Go.OpenSpec.ofChange s with cond := some uptoSmall }

/-- 'laws.FnTreeLink', WHERE WHAT IT READS IS OF BULK AT MOST 1048576: true; the input reads as it did. -/
def fnTreeLinkUptoRow : OpenClaim := { program := "ytlnehebihfeegaa", sum := "b6cb517ef300b4b756f008d497b3a55f8b8cfdf7bef19966a95ff0453613891d", func := "loop.example/jackstay/laws.FnTreeLink", spec := "fnTreeLink", inPlace := ["internal/bytealg.IndexByteString", "slices.overlaps[string]", "slices.overlaps[loop.example/jackstay/impl.node]"], unfollowed := true, recurses := true, apart := false, narrowed := true }
def FnTreeLinkUptoSaid : Prop := fnTreeLinkUptoRow.holds Try.pinned (OpenSpec.upto fnTreeLinkSpec)

/-- 'laws.FnTreeMoveIn', WHERE WHAT IT READS IS OF BULK AT MOST 1048576: true; the input reads as it did. -/
def fnTreeMoveInUptoRow : OpenClaim := { program := "ytlnehebihfeegaa", sum := "b6cb517ef300b4b756f008d497b3a55f8b8cfdf7bef19966a95ff0453613891d", func := "loop.example/jackstay/laws.FnTreeMoveIn", spec := "fnTreeMoveIn", inPlace := ["internal/bytealg.IndexByteString", "slices.overlaps[string]", "slices.overlaps[loop.example/jackstay/impl.node]"], unfollowed := true, recurses := true, apart := false, narrowed := true }
def FnTreeMoveInUptoSaid : Prop := fnTreeMoveInUptoRow.holds Try.pinned (OpenSpec.upto fnTreeMoveInSpec)

/-- 'laws.FnExactTreeOk', WHERE WHAT IT READS IS OF BULK AT MOST 1048576: true; the input reads as it did. -/
def fnExactTreeOkUptoRow : OpenClaim := { program := "ytlnehebihfeegaa", sum := "b6cb517ef300b4b756f008d497b3a55f8b8cfdf7bef19966a95ff0453613891d", func := "loop.example/jackstay/laws.FnExactTreeOk", spec := "fnExactTreeOk", inPlace := ["internal/bytealg.IndexByteString", "slices.overlaps[string]", "slices.overlaps[loop.example/jackstay/impl.node]"], unfollowed := true, recurses := true, apart := false, narrowed := true }
def FnExactTreeOkUptoSaid : Prop := fnExactTreeOkUptoRow.holds Try.pinned (OpenSpec.upto fnExactTreeOkSpec)

/-- 'laws.FnExactTreeGet', WHERE WHAT IT READS IS OF BULK AT MOST 1048576: true; the input reads as it did. -/
def fnExactTreeGetUptoRow : OpenClaim := { program := "ytlnehebihfeegaa", sum := "b6cb517ef300b4b756f008d497b3a55f8b8cfdf7bef19966a95ff0453613891d", func := "loop.example/jackstay/laws.FnExactTreeGet", spec := "fnExactTreeGet", inPlace := ["internal/bytealg.IndexByteString", "slices.overlaps[string]", "slices.overlaps[loop.example/jackstay/impl.node]"], unfollowed := true, recurses := true, apart := false, narrowed := true }
def FnExactTreeGetUptoSaid : Prop := fnExactTreeGetUptoRow.holds Try.pinned (OpenSpec.upto fnExactTreeGetSpec)

/-- 'laws.FnExactTreePut', WHERE WHAT IT READS IS OF BULK AT MOST 1048576: true; the input reads as it did. -/
def fnExactTreePutUptoRow : OpenClaim := { program := "ytlnehebihfeegaa", sum := "b6cb517ef300b4b756f008d497b3a55f8b8cfdf7bef19966a95ff0453613891d", func := "loop.example/jackstay/laws.FnExactTreePut", spec := "fnExactTreePut", inPlace := ["internal/bytealg.IndexByteString", "slices.overlaps[string]", "slices.overlaps[loop.example/jackstay/impl.node]"], unfollowed := true, recurses := true, apart := false, narrowed := true }
def FnExactTreePutUptoSaid : Prop := fnExactTreePutUptoRow.holds Try.pinned (OpenSpec.upto fnExactTreePutSpec)

/-- 'laws.FnExactTreeDrop', WHERE WHAT IT READS IS OF BULK AT MOST 1048576: true; the input reads as it did. -/
def fnExactTreeDropUptoRow : OpenClaim := { program := "ytlnehebihfeegaa", sum := "b6cb517ef300b4b756f008d497b3a55f8b8cfdf7bef19966a95ff0453613891d", func := "loop.example/jackstay/laws.FnExactTreeDrop", spec := "fnExactTreeDrop", inPlace := ["internal/bytealg.IndexByteString", "slices.overlaps[string]", "slices.overlaps[loop.example/jackstay/impl.node]"], unfollowed := true, recurses := true, apart := false, narrowed := true }
def FnExactTreeDropUptoSaid : Prop := fnExactTreeDropUptoRow.holds Try.pinned (OpenSpec.upto fnExactTreeDropSpec)

/-- 'laws.FnExactTreeMove', WHERE WHAT IT READS IS OF BULK AT MOST 1048576: true; the input reads as it did. -/
def fnExactTreeMoveUptoRow : OpenClaim := { program := "ytlnehebihfeegaa", sum := "b6cb517ef300b4b756f008d497b3a55f8b8cfdf7bef19966a95ff0453613891d", func := "loop.example/jackstay/laws.FnExactTreeMove", spec := "fnExactTreeMove", inPlace := ["internal/bytealg.IndexByteString", "slices.overlaps[string]", "slices.overlaps[loop.example/jackstay/impl.node]"], unfollowed := true, recurses := true, apart := false, narrowed := true }
def FnExactTreeMoveUptoSaid : Prop := fnExactTreeMoveUptoRow.holds Try.pinned (OpenSpec.upto fnExactTreeMoveSpec)

/-- 'laws.FnExactTreeJoin', WHERE WHAT IT READS IS OF BULK AT MOST 1048576: true; the input reads as it did. -/
def fnExactTreeJoinUptoRow : OpenClaim := { program := "ytlnehebihfeegaa", sum := "b6cb517ef300b4b756f008d497b3a55f8b8cfdf7bef19966a95ff0453613891d", func := "loop.example/jackstay/laws.FnExactTreeJoin", spec := "fnExactTreeJoin", inPlace := ["internal/bytealg.IndexByteString", "slices.overlaps[string]", "slices.overlaps[loop.example/jackstay/impl.node]"], unfollowed := true, recurses := true, apart := false, narrowed := true }
def FnExactTreeJoinUptoSaid : Prop := fnExactTreeJoinUptoRow.holds Try.pinned (OpenSpec.upto fnExactTreeJoinSpec)

/-- 'laws.FnExactTreePart', WHERE WHAT IT READS IS OF BULK AT MOST 1048576: true; the input reads as it did. -/
def fnExactTreePartUptoRow : OpenClaim := { program := "ytlnehebihfeegaa", sum := "b6cb517ef300b4b756f008d497b3a55f8b8cfdf7bef19966a95ff0453613891d", func := "loop.example/jackstay/laws.FnExactTreePart", spec := "fnExactTreePart", inPlace := ["internal/bytealg.IndexByteString", "slices.overlaps[string]", "slices.overlaps[loop.example/jackstay/impl.node]"], unfollowed := true, recurses := true, apart := false, narrowed := true }
def FnExactTreePartUptoSaid : Prop := fnExactTreePartUptoRow.holds Try.pinned (OpenSpec.upto fnExactTreePartSpec)

/-- 'laws.FnExactTreeFollow', WHERE WHAT IT READS IS OF BULK AT MOST 1048576: true; the input reads as it did. -/
def fnExactTreeFollowUptoRow : OpenClaim := { program := "ytlnehebihfeegaa", sum := "b6cb517ef300b4b756f008d497b3a55f8b8cfdf7bef19966a95ff0453613891d", func := "loop.example/jackstay/laws.FnExactTreeFollow", spec := "fnExactTreeFollow", inPlace := ["internal/bytealg.IndexByteString", "slices.overlaps[string]", "slices.overlaps[loop.example/jackstay/impl.node]"], unfollowed := true, recurses := true, apart := false, narrowed := true }
def FnExactTreeFollowUptoSaid : Prop := fnExactTreeFollowUptoRow.holds Try.pinned (OpenSpec.upto fnExactTreeFollowSpec)

end Rows
end Go.Proofs.Ytlnehebihfeegaa
