/-
  No cell of these rows narrows 'for every input' (looked for: loops, veiled, ifaces, maps, wideKeys, modest, calm, conditions, laid).
  DERIVED. THE GIVEN ROWS OF THIS SEAT. 11 by the template 'for every input the law returns true; each argument reads behind the call as it read before'; 0 by the template 'total and deterministic' (their statements: YtaefjibnnbdaaaaTotals.lean).
  GIVEN WITH THE SEED: the statements are not yours to turn. If you find one false, say at which input.
  Laid BY PROGRAM, IN A SANDBOX (cutbox-rows.mjs): the forced cells as the released guide's own fill.sh prints them over the translation 44efd35907b68f02… (all of the seat's roots in one cut). By AI agents, Wed Nov 11 2026. No macro, syntax, notation, axiom, sorry.
-/
import Derived.Test.YtaefjibnnbdaaaaChecked
import GoSem.Claim
import GoSem.ClaimJoined
import GoSem.ClaimMapViews
import Derived.JoinedTies
import Derived.KernelRfl
namespace Go.Proofs.Ytaefjibnnbdaaaa
/- THE CELL 'sum', in the pinned program and in every row, IS THE sha256 OF THE DUMP (.gsa) THAT YtaefjibnnbdaaaaProg.lean LOADS. Nothing in Lean hashes anything: it is a label: what it is worth is what the hold of that sum in a sandbox is worth. -/
noncomputable def Try.pinned : Pinned := { name := "ytaefjibnnbdaaaa", sum := "44efd35907b68f02fb31a78a4206f60a9c541b58bfb283cd732d7339b3fbd1ef", checked := Try.checked }
namespace Rows
def none {H : Type} : Left H := { results := [], args := [] }

/-- 'laws.FnTreeLink': WHATEVER THE INPUT: true; the input reads as it did. -/
def fnTreeLinkSpec : ChangeSpec := { name := "fnTreeLink", fn := fun _ => fun
  | [d] => { results := [.lit (.bool true)], args := [d] }
  | _ => none }
def fnTreeLinkRow : OpenClaim := { program := "ytaefjibnnbdaaaa", sum := "44efd35907b68f02fb31a78a4206f60a9c541b58bfb283cd732d7339b3fbd1ef", func := "loop.example/jackstay/laws.FnTreeLink", spec := "fnTreeLink", inPlace := ["internal/bytealg.IndexByteString", "slices.overlaps[string]", "slices.overlaps[loop.example/jackstay/impl.node]"], unfollowed := true, recurses := true, apart := false }
def FnTreeLinkSaid : Prop := fnTreeLinkRow.holds Try.pinned (OpenSpec.ofChange fnTreeLinkSpec)

/-- ITS FALSE NEIGHBOUR: 'it returns false'. Refute it at one input. -/
def fnTreeLinkWrong : ChangeSpec := { name := "fnTreeLink", fn := fun _ => fun
  | [d] => { results := [.lit (.bool false)], args := [d] }
  | _ => none }
def FnTreeLinkWrongFalsely : Prop := fnTreeLinkRow.holds Try.pinned (OpenSpec.ofChange fnTreeLinkWrong)

/-- 'laws.FnTreeMoveIn': WHATEVER THE INPUT: true; the input reads as it did. -/
def fnTreeMoveInSpec : ChangeSpec := { name := "fnTreeMoveIn", fn := fun _ => fun
  | [d] => { results := [.lit (.bool true)], args := [d] }
  | _ => none }
def fnTreeMoveInRow : OpenClaim := { program := "ytaefjibnnbdaaaa", sum := "44efd35907b68f02fb31a78a4206f60a9c541b58bfb283cd732d7339b3fbd1ef", func := "loop.example/jackstay/laws.FnTreeMoveIn", spec := "fnTreeMoveIn", inPlace := ["internal/bytealg.IndexByteString", "slices.overlaps[string]", "slices.overlaps[loop.example/jackstay/impl.node]"], unfollowed := true, recurses := true, apart := false }
def FnTreeMoveInSaid : Prop := fnTreeMoveInRow.holds Try.pinned (OpenSpec.ofChange fnTreeMoveInSpec)

/-- ITS FALSE NEIGHBOUR: 'it returns false'. Refute it at one input. -/
def fnTreeMoveInWrong : ChangeSpec := { name := "fnTreeMoveIn", fn := fun _ => fun
  | [d] => { results := [.lit (.bool false)], args := [d] }
  | _ => none }
def FnTreeMoveInWrongFalsely : Prop := fnTreeMoveInRow.holds Try.pinned (OpenSpec.ofChange fnTreeMoveInWrong)

/-- 'laws.FnTreePut': WHATEVER THE INPUT: true; the input reads as it did. -/
def fnTreePutSpec : ChangeSpec := { name := "fnTreePut", fn := fun _ => fun
  | [d] => { results := [.lit (.bool true)], args := [d] }
  | _ => none }
def fnTreePutRow : OpenClaim := { program := "ytaefjibnnbdaaaa", sum := "44efd35907b68f02fb31a78a4206f60a9c541b58bfb283cd732d7339b3fbd1ef", func := "loop.example/jackstay/laws.FnTreePut", spec := "fnTreePut", inPlace := ["internal/bytealg.IndexByteString", "slices.overlaps[string]", "slices.overlaps[loop.example/jackstay/impl.node]"], unfollowed := true, recurses := true, apart := false }
def FnTreePutSaid : Prop := fnTreePutRow.holds Try.pinned (OpenSpec.ofChange fnTreePutSpec)

/-- ITS FALSE NEIGHBOUR: 'it returns false'. Refute it at one input. -/
def fnTreePutWrong : ChangeSpec := { name := "fnTreePut", fn := fun _ => fun
  | [d] => { results := [.lit (.bool false)], args := [d] }
  | _ => none }
def FnTreePutWrongFalsely : Prop := fnTreePutRow.holds Try.pinned (OpenSpec.ofChange fnTreePutWrong)

/-- 'laws.FnTreeDrop': WHATEVER THE INPUT: true; the input reads as it did. -/
def fnTreeDropSpec : ChangeSpec := { name := "fnTreeDrop", fn := fun _ => fun
  | [d] => { results := [.lit (.bool true)], args := [d] }
  | _ => none }
def fnTreeDropRow : OpenClaim := { program := "ytaefjibnnbdaaaa", sum := "44efd35907b68f02fb31a78a4206f60a9c541b58bfb283cd732d7339b3fbd1ef", func := "loop.example/jackstay/laws.FnTreeDrop", spec := "fnTreeDrop", inPlace := ["internal/bytealg.IndexByteString", "slices.overlaps[string]", "slices.overlaps[loop.example/jackstay/impl.node]"], unfollowed := true, recurses := true, apart := false }
def FnTreeDropSaid : Prop := fnTreeDropRow.holds Try.pinned (OpenSpec.ofChange fnTreeDropSpec)

/-- ITS FALSE NEIGHBOUR: 'it returns false'. Refute it at one input. -/
def fnTreeDropWrong : ChangeSpec := { name := "fnTreeDrop", fn := fun _ => fun
  | [d] => { results := [.lit (.bool false)], args := [d] }
  | _ => none }
def FnTreeDropWrongFalsely : Prop := fnTreeDropRow.holds Try.pinned (OpenSpec.ofChange fnTreeDropWrong)

/-- 'laws.FnTreeMove': WHATEVER THE INPUT: true; the input reads as it did. -/
def fnTreeMoveSpec : ChangeSpec := { name := "fnTreeMove", fn := fun _ => fun
  | [d] => { results := [.lit (.bool true)], args := [d] }
  | _ => none }
def fnTreeMoveRow : OpenClaim := { program := "ytaefjibnnbdaaaa", sum := "44efd35907b68f02fb31a78a4206f60a9c541b58bfb283cd732d7339b3fbd1ef", func := "loop.example/jackstay/laws.FnTreeMove", spec := "fnTreeMove", inPlace := ["internal/bytealg.IndexByteString", "slices.overlaps[string]", "slices.overlaps[loop.example/jackstay/impl.node]"], unfollowed := true, recurses := true, apart := false }
def FnTreeMoveSaid : Prop := fnTreeMoveRow.holds Try.pinned (OpenSpec.ofChange fnTreeMoveSpec)

/-- ITS FALSE NEIGHBOUR: 'it returns false'. Refute it at one input. -/
def fnTreeMoveWrong : ChangeSpec := { name := "fnTreeMove", fn := fun _ => fun
  | [d] => { results := [.lit (.bool false)], args := [d] }
  | _ => none }
def FnTreeMoveWrongFalsely : Prop := fnTreeMoveRow.holds Try.pinned (OpenSpec.ofChange fnTreeMoveWrong)

/-- 'laws.FnTreeJoin': WHATEVER THE INPUT: true; the input reads as it did. -/
def fnTreeJoinSpec : ChangeSpec := { name := "fnTreeJoin", fn := fun _ => fun
  | [d] => { results := [.lit (.bool true)], args := [d] }
  | _ => none }
def fnTreeJoinRow : OpenClaim := { program := "ytaefjibnnbdaaaa", sum := "44efd35907b68f02fb31a78a4206f60a9c541b58bfb283cd732d7339b3fbd1ef", func := "loop.example/jackstay/laws.FnTreeJoin", spec := "fnTreeJoin", inPlace := ["internal/bytealg.IndexByteString", "slices.overlaps[string]", "slices.overlaps[loop.example/jackstay/impl.node]"], unfollowed := true, recurses := true, apart := false }
def FnTreeJoinSaid : Prop := fnTreeJoinRow.holds Try.pinned (OpenSpec.ofChange fnTreeJoinSpec)

/-- ITS FALSE NEIGHBOUR: 'it returns false'. Refute it at one input. -/
def fnTreeJoinWrong : ChangeSpec := { name := "fnTreeJoin", fn := fun _ => fun
  | [d] => { results := [.lit (.bool false)], args := [d] }
  | _ => none }
def FnTreeJoinWrongFalsely : Prop := fnTreeJoinRow.holds Try.pinned (OpenSpec.ofChange fnTreeJoinWrong)

/-- 'laws.FnTreeFollow': WHATEVER THE INPUT: true; the input reads as it did. -/
def fnTreeFollowSpec : ChangeSpec := { name := "fnTreeFollow", fn := fun _ => fun
  | [d] => { results := [.lit (.bool true)], args := [d] }
  | _ => none }
def fnTreeFollowRow : OpenClaim := { program := "ytaefjibnnbdaaaa", sum := "44efd35907b68f02fb31a78a4206f60a9c541b58bfb283cd732d7339b3fbd1ef", func := "loop.example/jackstay/laws.FnTreeFollow", spec := "fnTreeFollow", inPlace := ["internal/bytealg.IndexByteString", "slices.overlaps[string]", "slices.overlaps[loop.example/jackstay/impl.node]"], unfollowed := true, recurses := true, apart := false }
def FnTreeFollowSaid : Prop := fnTreeFollowRow.holds Try.pinned (OpenSpec.ofChange fnTreeFollowSpec)

/-- ITS FALSE NEIGHBOUR: 'it returns false'. Refute it at one input. -/
def fnTreeFollowWrong : ChangeSpec := { name := "fnTreeFollow", fn := fun _ => fun
  | [d] => { results := [.lit (.bool false)], args := [d] }
  | _ => none }
def FnTreeFollowWrongFalsely : Prop := fnTreeFollowRow.holds Try.pinned (OpenSpec.ofChange fnTreeFollowWrong)

/-- 'laws.FnTreePutDrop': WHATEVER THE INPUT: true; the input reads as it did. -/
def fnTreePutDropSpec : ChangeSpec := { name := "fnTreePutDrop", fn := fun _ => fun
  | [d] => { results := [.lit (.bool true)], args := [d] }
  | _ => none }
def fnTreePutDropRow : OpenClaim := { program := "ytaefjibnnbdaaaa", sum := "44efd35907b68f02fb31a78a4206f60a9c541b58bfb283cd732d7339b3fbd1ef", func := "loop.example/jackstay/laws.FnTreePutDrop", spec := "fnTreePutDrop", inPlace := ["internal/bytealg.IndexByteString", "slices.overlaps[string]", "slices.overlaps[loop.example/jackstay/impl.node]"], unfollowed := true, recurses := true, apart := false }
def FnTreePutDropSaid : Prop := fnTreePutDropRow.holds Try.pinned (OpenSpec.ofChange fnTreePutDropSpec)

/-- ITS FALSE NEIGHBOUR: 'it returns false'. Refute it at one input. -/
def fnTreePutDropWrong : ChangeSpec := { name := "fnTreePutDrop", fn := fun _ => fun
  | [d] => { results := [.lit (.bool false)], args := [d] }
  | _ => none }
def FnTreePutDropWrongFalsely : Prop := fnTreePutDropRow.holds Try.pinned (OpenSpec.ofChange fnTreePutDropWrong)

/-- 'laws.FnTreeJoinSelf': WHATEVER THE INPUT: true; the input reads as it did. -/
def fnTreeJoinSelfSpec : ChangeSpec := { name := "fnTreeJoinSelf", fn := fun _ => fun
  | [d] => { results := [.lit (.bool true)], args := [d] }
  | _ => none }
def fnTreeJoinSelfRow : OpenClaim := { program := "ytaefjibnnbdaaaa", sum := "44efd35907b68f02fb31a78a4206f60a9c541b58bfb283cd732d7339b3fbd1ef", func := "loop.example/jackstay/laws.FnTreeJoinSelf", spec := "fnTreeJoinSelf", inPlace := ["internal/bytealg.IndexByteString", "slices.overlaps[string]", "slices.overlaps[loop.example/jackstay/impl.node]"], unfollowed := true, recurses := true, apart := false }
def FnTreeJoinSelfSaid : Prop := fnTreeJoinSelfRow.holds Try.pinned (OpenSpec.ofChange fnTreeJoinSelfSpec)

/-- ITS FALSE NEIGHBOUR: 'it returns false'. Refute it at one input. -/
def fnTreeJoinSelfWrong : ChangeSpec := { name := "fnTreeJoinSelf", fn := fun _ => fun
  | [d] => { results := [.lit (.bool false)], args := [d] }
  | _ => none }
def FnTreeJoinSelfWrongFalsely : Prop := fnTreeJoinSelfRow.holds Try.pinned (OpenSpec.ofChange fnTreeJoinSelfWrong)

/-- 'laws.FnTreeGrow': WHATEVER THE INPUT: true; the input reads as it did. -/
def fnTreeGrowSpec : ChangeSpec := { name := "fnTreeGrow", fn := fun _ => fun
  | [d] => { results := [.lit (.bool true)], args := [d] }
  | _ => none }
def fnTreeGrowRow : OpenClaim := { program := "ytaefjibnnbdaaaa", sum := "44efd35907b68f02fb31a78a4206f60a9c541b58bfb283cd732d7339b3fbd1ef", func := "loop.example/jackstay/laws.FnTreeGrow", spec := "fnTreeGrow", inPlace := ["internal/bytealg.IndexByteString", "slices.overlaps[string]", "slices.overlaps[loop.example/jackstay/impl.node]"], unfollowed := true, recurses := true, apart := false }
def FnTreeGrowSaid : Prop := fnTreeGrowRow.holds Try.pinned (OpenSpec.ofChange fnTreeGrowSpec)

/-- ITS FALSE NEIGHBOUR: 'it returns false'. Refute it at one input. -/
def fnTreeGrowWrong : ChangeSpec := { name := "fnTreeGrow", fn := fun _ => fun
  | [d] => { results := [.lit (.bool false)], args := [d] }
  | _ => none }
def FnTreeGrowWrongFalsely : Prop := fnTreeGrowRow.holds Try.pinned (OpenSpec.ofChange fnTreeGrowWrong)

/-- 'laws.FnExactTreePart': WHATEVER THE INPUT: true; the input reads as it did. -/
def fnExactTreePartSpec : ChangeSpec := { name := "fnExactTreePart", fn := fun _ => fun
  | [d1, d2] => { results := [.lit (.bool true)], args := [d1, d2] }
  | _ => none }
def fnExactTreePartRow : OpenClaim := { program := "ytaefjibnnbdaaaa", sum := "44efd35907b68f02fb31a78a4206f60a9c541b58bfb283cd732d7339b3fbd1ef", func := "loop.example/jackstay/laws.FnExactTreePart", spec := "fnExactTreePart", inPlace := ["internal/bytealg.IndexByteString", "slices.overlaps[string]", "slices.overlaps[loop.example/jackstay/impl.node]"], unfollowed := true, recurses := true, apart := false }
def FnExactTreePartSaid : Prop := fnExactTreePartRow.holds Try.pinned (OpenSpec.ofChange fnExactTreePartSpec)

/-- ITS FALSE NEIGHBOUR: 'it returns false'. Refute it at one input. -/
def fnExactTreePartWrong : ChangeSpec := { name := "fnExactTreePart", fn := fun _ => fun
  | [d1, d2] => { results := [.lit (.bool false)], args := [d1, d2] }
  | _ => none }
def FnExactTreePartWrongFalsely : Prop := fnExactTreePartRow.holds Try.pinned (OpenSpec.ofChange fnExactTreePartWrong)

/- THE SECOND FORM. 'bulk': how many values and letters a reading holds, each counted each time it is reached (what is shared counts as often as it is met; a slice's spare places count too). A statement '..UptoSaid' is the law's where the arguments, and the package variables that the reading takes, are together of bulk at most 1048576: NARROWER than '..Said'. Prove '..Said' where nothing that the law and all that it calls make is longer than what came in: it says more and counts as full. Else prove '..UptoSaid'. A law counts once. -/
mutual
def uptoBulk {H : Type} : DataW H → Nat
  | .lit (.string bytes) => bytes.length + 1
  | .lit _ => 1
  | .nil => 1
  | .ptr d => uptoBulk d + 1
  | .slice elems spare => uptoBulkAll elems + uptoBulkAll spare + 1
  | .agg parts => uptoBulkAll parts + 1
  | .iface _ d => uptoBulk d + 1
  | .map entries => uptoBulkEntries entries + 1
  | .held _ => 1
def uptoBulkAll {H : Type} : List (DataW H) → Nat
  | [] => 0
  | d :: r => uptoBulk d + uptoBulkAll r
def uptoBulkEntries {H : Type} : List (Lit × DataW H) → Nat
  | [] => 0
  | x :: r => uptoBulkEntry x + uptoBulkEntries r
def uptoBulkEntry {H : Type} : Lit × DataW H → Nat
  | (.string bytes, d) => bytes.length + uptoBulk d + 1
  | (_, d) => uptoBulk d + 1
 end
def uptoSmall : (H : Type) → List (DataW H) → Bool := fun _ ds => decide (uptoBulkAll ds ≤ 1048576)
def OpenSpec.upto (s : _root_.Go.ChangeSpec) : _root_.Go.OpenSpec := { _root_.Go.OpenSpec.ofChange s with cond := some uptoSmall }

/-- 'laws.FnTreeLink', WHERE WHAT IT READS IS OF BULK AT MOST 1048576: true; the input reads as it did. -/
def fnTreeLinkUptoRow : OpenClaim := { program := "ytaefjibnnbdaaaa", sum := "44efd35907b68f02fb31a78a4206f60a9c541b58bfb283cd732d7339b3fbd1ef", func := "loop.example/jackstay/laws.FnTreeLink", spec := "fnTreeLink", inPlace := ["internal/bytealg.IndexByteString", "slices.overlaps[string]", "slices.overlaps[loop.example/jackstay/impl.node]"], unfollowed := true, recurses := true, apart := false, narrowed := true }
def FnTreeLinkUptoSaid : Prop := fnTreeLinkUptoRow.holds Try.pinned (OpenSpec.upto fnTreeLinkSpec)

/-- 'laws.FnTreeMoveIn', WHERE WHAT IT READS IS OF BULK AT MOST 1048576: true; the input reads as it did. -/
def fnTreeMoveInUptoRow : OpenClaim := { program := "ytaefjibnnbdaaaa", sum := "44efd35907b68f02fb31a78a4206f60a9c541b58bfb283cd732d7339b3fbd1ef", func := "loop.example/jackstay/laws.FnTreeMoveIn", spec := "fnTreeMoveIn", inPlace := ["internal/bytealg.IndexByteString", "slices.overlaps[string]", "slices.overlaps[loop.example/jackstay/impl.node]"], unfollowed := true, recurses := true, apart := false, narrowed := true }
def FnTreeMoveInUptoSaid : Prop := fnTreeMoveInUptoRow.holds Try.pinned (OpenSpec.upto fnTreeMoveInSpec)

/-- 'laws.FnTreePut', WHERE WHAT IT READS IS OF BULK AT MOST 1048576: true; the input reads as it did. -/
def fnTreePutUptoRow : OpenClaim := { program := "ytaefjibnnbdaaaa", sum := "44efd35907b68f02fb31a78a4206f60a9c541b58bfb283cd732d7339b3fbd1ef", func := "loop.example/jackstay/laws.FnTreePut", spec := "fnTreePut", inPlace := ["internal/bytealg.IndexByteString", "slices.overlaps[string]", "slices.overlaps[loop.example/jackstay/impl.node]"], unfollowed := true, recurses := true, apart := false, narrowed := true }
def FnTreePutUptoSaid : Prop := fnTreePutUptoRow.holds Try.pinned (OpenSpec.upto fnTreePutSpec)

/-- 'laws.FnTreeDrop', WHERE WHAT IT READS IS OF BULK AT MOST 1048576: true; the input reads as it did. -/
def fnTreeDropUptoRow : OpenClaim := { program := "ytaefjibnnbdaaaa", sum := "44efd35907b68f02fb31a78a4206f60a9c541b58bfb283cd732d7339b3fbd1ef", func := "loop.example/jackstay/laws.FnTreeDrop", spec := "fnTreeDrop", inPlace := ["internal/bytealg.IndexByteString", "slices.overlaps[string]", "slices.overlaps[loop.example/jackstay/impl.node]"], unfollowed := true, recurses := true, apart := false, narrowed := true }
def FnTreeDropUptoSaid : Prop := fnTreeDropUptoRow.holds Try.pinned (OpenSpec.upto fnTreeDropSpec)

/-- 'laws.FnTreeMove', WHERE WHAT IT READS IS OF BULK AT MOST 1048576: true; the input reads as it did. -/
def fnTreeMoveUptoRow : OpenClaim := { program := "ytaefjibnnbdaaaa", sum := "44efd35907b68f02fb31a78a4206f60a9c541b58bfb283cd732d7339b3fbd1ef", func := "loop.example/jackstay/laws.FnTreeMove", spec := "fnTreeMove", inPlace := ["internal/bytealg.IndexByteString", "slices.overlaps[string]", "slices.overlaps[loop.example/jackstay/impl.node]"], unfollowed := true, recurses := true, apart := false, narrowed := true }
def FnTreeMoveUptoSaid : Prop := fnTreeMoveUptoRow.holds Try.pinned (OpenSpec.upto fnTreeMoveSpec)

/-- 'laws.FnTreeJoin', WHERE WHAT IT READS IS OF BULK AT MOST 1048576: true; the input reads as it did. -/
def fnTreeJoinUptoRow : OpenClaim := { program := "ytaefjibnnbdaaaa", sum := "44efd35907b68f02fb31a78a4206f60a9c541b58bfb283cd732d7339b3fbd1ef", func := "loop.example/jackstay/laws.FnTreeJoin", spec := "fnTreeJoin", inPlace := ["internal/bytealg.IndexByteString", "slices.overlaps[string]", "slices.overlaps[loop.example/jackstay/impl.node]"], unfollowed := true, recurses := true, apart := false, narrowed := true }
def FnTreeJoinUptoSaid : Prop := fnTreeJoinUptoRow.holds Try.pinned (OpenSpec.upto fnTreeJoinSpec)

/-- 'laws.FnTreeFollow', WHERE WHAT IT READS IS OF BULK AT MOST 1048576: true; the input reads as it did. -/
def fnTreeFollowUptoRow : OpenClaim := { program := "ytaefjibnnbdaaaa", sum := "44efd35907b68f02fb31a78a4206f60a9c541b58bfb283cd732d7339b3fbd1ef", func := "loop.example/jackstay/laws.FnTreeFollow", spec := "fnTreeFollow", inPlace := ["internal/bytealg.IndexByteString", "slices.overlaps[string]", "slices.overlaps[loop.example/jackstay/impl.node]"], unfollowed := true, recurses := true, apart := false, narrowed := true }
def FnTreeFollowUptoSaid : Prop := fnTreeFollowUptoRow.holds Try.pinned (OpenSpec.upto fnTreeFollowSpec)

/-- 'laws.FnTreePutDrop', WHERE WHAT IT READS IS OF BULK AT MOST 1048576: true; the input reads as it did. -/
def fnTreePutDropUptoRow : OpenClaim := { program := "ytaefjibnnbdaaaa", sum := "44efd35907b68f02fb31a78a4206f60a9c541b58bfb283cd732d7339b3fbd1ef", func := "loop.example/jackstay/laws.FnTreePutDrop", spec := "fnTreePutDrop", inPlace := ["internal/bytealg.IndexByteString", "slices.overlaps[string]", "slices.overlaps[loop.example/jackstay/impl.node]"], unfollowed := true, recurses := true, apart := false, narrowed := true }
def FnTreePutDropUptoSaid : Prop := fnTreePutDropUptoRow.holds Try.pinned (OpenSpec.upto fnTreePutDropSpec)

/-- 'laws.FnTreeJoinSelf', WHERE WHAT IT READS IS OF BULK AT MOST 1048576: true; the input reads as it did. -/
def fnTreeJoinSelfUptoRow : OpenClaim := { program := "ytaefjibnnbdaaaa", sum := "44efd35907b68f02fb31a78a4206f60a9c541b58bfb283cd732d7339b3fbd1ef", func := "loop.example/jackstay/laws.FnTreeJoinSelf", spec := "fnTreeJoinSelf", inPlace := ["internal/bytealg.IndexByteString", "slices.overlaps[string]", "slices.overlaps[loop.example/jackstay/impl.node]"], unfollowed := true, recurses := true, apart := false, narrowed := true }
def FnTreeJoinSelfUptoSaid : Prop := fnTreeJoinSelfUptoRow.holds Try.pinned (OpenSpec.upto fnTreeJoinSelfSpec)

/-- 'laws.FnTreeGrow', WHERE WHAT IT READS IS OF BULK AT MOST 1048576: true; the input reads as it did. -/
def fnTreeGrowUptoRow : OpenClaim := { program := "ytaefjibnnbdaaaa", sum := "44efd35907b68f02fb31a78a4206f60a9c541b58bfb283cd732d7339b3fbd1ef", func := "loop.example/jackstay/laws.FnTreeGrow", spec := "fnTreeGrow", inPlace := ["internal/bytealg.IndexByteString", "slices.overlaps[string]", "slices.overlaps[loop.example/jackstay/impl.node]"], unfollowed := true, recurses := true, apart := false, narrowed := true }
def FnTreeGrowUptoSaid : Prop := fnTreeGrowUptoRow.holds Try.pinned (OpenSpec.upto fnTreeGrowSpec)

/-- 'laws.FnExactTreePart', WHERE WHAT IT READS IS OF BULK AT MOST 1048576: true; the input reads as it did. -/
def fnExactTreePartUptoRow : OpenClaim := { program := "ytaefjibnnbdaaaa", sum := "44efd35907b68f02fb31a78a4206f60a9c541b58bfb283cd732d7339b3fbd1ef", func := "loop.example/jackstay/laws.FnExactTreePart", spec := "fnExactTreePart", inPlace := ["internal/bytealg.IndexByteString", "slices.overlaps[string]", "slices.overlaps[loop.example/jackstay/impl.node]"], unfollowed := true, recurses := true, apart := false, narrowed := true }
def FnExactTreePartUptoSaid : Prop := fnExactTreePartUptoRow.holds Try.pinned (OpenSpec.upto fnExactTreePartSpec)

end Rows
end Go.Proofs.Ytaefjibnnbdaaaa
