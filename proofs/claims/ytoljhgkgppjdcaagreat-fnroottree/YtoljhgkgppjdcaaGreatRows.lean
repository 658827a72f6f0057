/-
  No cell of these rows narrows 'for every input' (looked for: loops, veiled, ifaces, maps, wideKeys, modest, calm, conditions, laid).
  DERIVED. THE GIVEN ROWS OF THIS SEAT. 10 by the template 'for every input the law returns true; each argument reads behind the call as it read before'; 0 by the template 'total and deterministic' (their statements: YtoljhgkgppjdcaaGreatTotals.lean).
  GIVEN WITH THE SEED: the statements are not yours to turn. If you find one false, say at which input.
  Laid BY PROGRAM, IN A SANDBOX (cutbox-rows.mjs): the forced cells as the released guide's own fill.sh prints them over the translation 8b1efb7da8e9b8cc… (all of the seat's roots in one cut). By AI agents, Wed Nov 11 2026. No macro, syntax, notation, axiom, sorry.
-/
import Derived.Test.YtoljhgkgppjdcaaGreatChecked
import GoSem.Claim
import GoSem.ClaimJoined
import GoSem.ClaimMapViews
import Derived.JoinedTies
import Derived.KernelRfl
namespace Go.Proofs.YtoljhgkgppjdcaaGreat
/- THE CELL 'sum', in the pinned program and in every row, IS THE sha256 OF THE DUMP (.gsa) THAT YtoljhgkgppjdcaaGreatProg.lean LOADS. Nothing in Lean hashes anything: it is a label: what it is worth is what the hold of that sum in a sandbox is worth. -/
noncomputable def Tryz.pinned : Pinned := { name := "ytoljhgkgppjdcaagreat", sum := "8b1efb7da8e9b8cc098a69a9fa34ead2df8e41225b67846a257afff1f6f1359f", checked := Tryz.checked }
namespace Rows
def none {H : Type} : Left H := { results := [], args := [] }

/-- 'laws.FnRootTree': WHATEVER THE INPUT: true; the input reads as it did. -/
def fnRootTreeSpec : ChangeSpec := { name := "fnRootTree", fn := fun _ => fun
  | [d] => { results := [.lit (.bool true)], args := [d] }
  | _ => none }
def fnRootTreeRow : OpenClaim := { program := "ytoljhgkgppjdcaagreat", sum := "8b1efb7da8e9b8cc098a69a9fa34ead2df8e41225b67846a257afff1f6f1359f", func := "loop.example/jackstay/laws.FnRootTree", spec := "fnRootTree", inPlace := ["internal/bytealg.IndexByteString", "slices.overlaps[string]", "slices.overlaps[loop.example/jackstay/impl.node]", "internal/bytealg.abigen_runtime_cmpstring"], unfollowed := true, recurses := true, apart := false }
def FnRootTreeSaid : Prop := fnRootTreeRow.holds Tryz.pinned (OpenSpec.ofChange fnRootTreeSpec)

/-- ITS FALSE NEIGHBOUR: 'it returns false'. Refute it at one input. -/
def fnRootTreeWrong : ChangeSpec := { name := "fnRootTree", fn := fun _ => fun
  | [d] => { results := [.lit (.bool false)], args := [d] }
  | _ => none }
def FnRootTreeWrongFalsely : Prop := fnRootTreeRow.holds Tryz.pinned (OpenSpec.ofChange fnRootTreeWrong)

/-- 'laws.FnRootIn': WHATEVER THE INPUT: true; the input reads as it did. -/
def fnRootInSpec : ChangeSpec := { name := "fnRootIn", fn := fun _ => fun
  | [d] => { results := [.lit (.bool true)], args := [d] }
  | _ => none }
def fnRootInRow : OpenClaim := { program := "ytoljhgkgppjdcaagreat", sum := "8b1efb7da8e9b8cc098a69a9fa34ead2df8e41225b67846a257afff1f6f1359f", func := "loop.example/jackstay/laws.FnRootIn", spec := "fnRootIn", inPlace := ["internal/bytealg.IndexByteString", "slices.overlaps[string]", "slices.overlaps[loop.example/jackstay/impl.node]", "internal/bytealg.abigen_runtime_cmpstring", "slices.overlaps[loop.example/jackstay/impl.Pack]"], unfollowed := true, recurses := true, apart := false }
def FnRootInSaid : Prop := fnRootInRow.holds Tryz.pinned (OpenSpec.ofChange fnRootInSpec)

/-- ITS FALSE NEIGHBOUR: 'it returns false'. Refute it at one input. -/
def fnRootInWrong : ChangeSpec := { name := "fnRootIn", fn := fun _ => fun
  | [d] => { results := [.lit (.bool false)], args := [d] }
  | _ => none }
def FnRootInWrongFalsely : Prop := fnRootInRow.holds Tryz.pinned (OpenSpec.ofChange fnRootInWrong)

/-- 'laws.FnRootSwap': WHATEVER THE INPUT: true; the input reads as it did. -/
def fnRootSwapSpec : ChangeSpec := { name := "fnRootSwap", fn := fun _ => fun
  | [d] => { results := [.lit (.bool true)], args := [d] }
  | _ => none }
def fnRootSwapRow : OpenClaim := { program := "ytoljhgkgppjdcaagreat", sum := "8b1efb7da8e9b8cc098a69a9fa34ead2df8e41225b67846a257afff1f6f1359f", func := "loop.example/jackstay/laws.FnRootSwap", spec := "fnRootSwap", inPlace := ["internal/bytealg.IndexByteString", "slices.overlaps[string]", "slices.overlaps[loop.example/jackstay/impl.node]", "internal/bytealg.abigen_runtime_cmpstring", "slices.overlaps[loop.example/jackstay/impl.Pack]"], unfollowed := true, recurses := true, apart := false }
def FnRootSwapSaid : Prop := fnRootSwapRow.holds Tryz.pinned (OpenSpec.ofChange fnRootSwapSpec)

/-- ITS FALSE NEIGHBOUR: 'it returns false'. Refute it at one input. -/
def fnRootSwapWrong : ChangeSpec := { name := "fnRootSwap", fn := fun _ => fun
  | [d] => { results := [.lit (.bool false)], args := [d] }
  | _ => none }
def FnRootSwapWrongFalsely : Prop := fnRootSwapRow.holds Tryz.pinned (OpenSpec.ofChange fnRootSwapWrong)

/-- 'laws.FnRootOwner': WHATEVER THE INPUT: true; the input reads as it did. -/
def fnRootOwnerSpec : ChangeSpec := { name := "fnRootOwner", fn := fun _ => fun
  | [d] => { results := [.lit (.bool true)], args := [d] }
  | _ => none }
def fnRootOwnerRow : OpenClaim := { program := "ytoljhgkgppjdcaagreat", sum := "8b1efb7da8e9b8cc098a69a9fa34ead2df8e41225b67846a257afff1f6f1359f", func := "loop.example/jackstay/laws.FnRootOwner", spec := "fnRootOwner", inPlace := ["internal/bytealg.IndexByteString", "slices.overlaps[string]", "slices.overlaps[loop.example/jackstay/impl.node]", "internal/bytealg.abigen_runtime_cmpstring"], unfollowed := true, recurses := true, apart := false }
def FnRootOwnerSaid : Prop := fnRootOwnerRow.holds Tryz.pinned (OpenSpec.ofChange fnRootOwnerSpec)

/-- ITS FALSE NEIGHBOUR: 'it returns false'. Refute it at one input. -/
def fnRootOwnerWrong : ChangeSpec := { name := "fnRootOwner", fn := fun _ => fun
  | [d] => { results := [.lit (.bool false)], args := [d] }
  | _ => none }
def FnRootOwnerWrongFalsely : Prop := fnRootOwnerRow.holds Tryz.pinned (OpenSpec.ofChange fnRootOwnerWrong)

/-- 'laws.FnRootTwo': WHATEVER THE INPUT: true; the input reads as it did. -/
def fnRootTwoSpec : ChangeSpec := { name := "fnRootTwo", fn := fun _ => fun
  | [d1, d2] => { results := [.lit (.bool true)], args := [d1, d2] }
  | _ => none }
def fnRootTwoRow : OpenClaim := { program := "ytoljhgkgppjdcaagreat", sum := "8b1efb7da8e9b8cc098a69a9fa34ead2df8e41225b67846a257afff1f6f1359f", func := "loop.example/jackstay/laws.FnRootTwo", spec := "fnRootTwo", inPlace := ["internal/bytealg.IndexByteString", "slices.overlaps[string]", "slices.overlaps[loop.example/jackstay/impl.node]", "internal/bytealg.abigen_runtime_cmpstring", "slices.overlaps[loop.example/jackstay/impl.Pack]"], unfollowed := true, recurses := true, apart := false }
def FnRootTwoSaid : Prop := fnRootTwoRow.holds Tryz.pinned (OpenSpec.ofChange fnRootTwoSpec)

/-- ITS FALSE NEIGHBOUR: 'it returns false'. Refute it at one input. -/
def fnRootTwoWrong : ChangeSpec := { name := "fnRootTwo", fn := fun _ => fun
  | [d1, d2] => { results := [.lit (.bool false)], args := [d1, d2] }
  | _ => none }
def FnRootTwoWrongFalsely : Prop := fnRootTwoRow.holds Tryz.pinned (OpenSpec.ofChange fnRootTwoWrong)

/-- 'laws.FnRootClash': WHATEVER THE INPUT: true; the input reads as it did. -/
def fnRootClashSpec : ChangeSpec := { name := "fnRootClash", fn := fun _ => fun
  | [d] => { results := [.lit (.bool true)], args := [d] }
  | _ => none }
def fnRootClashRow : OpenClaim := { program := "ytoljhgkgppjdcaagreat", sum := "8b1efb7da8e9b8cc098a69a9fa34ead2df8e41225b67846a257afff1f6f1359f", func := "loop.example/jackstay/laws.FnRootClash", spec := "fnRootClash", inPlace := ["internal/bytealg.IndexByteString", "slices.overlaps[string]", "slices.overlaps[loop.example/jackstay/impl.node]", "internal/bytealg.abigen_runtime_cmpstring", "slices.overlaps[loop.example/jackstay/impl.Pack]"], unfollowed := true, recurses := true, apart := false }
def FnRootClashSaid : Prop := fnRootClashRow.holds Tryz.pinned (OpenSpec.ofChange fnRootClashSpec)

/-- ITS FALSE NEIGHBOUR: 'it returns false'. Refute it at one input. -/
def fnRootClashWrong : ChangeSpec := { name := "fnRootClash", fn := fun _ => fun
  | [d] => { results := [.lit (.bool false)], args := [d] }
  | _ => none }
def FnRootClashWrongFalsely : Prop := fnRootClashRow.holds Tryz.pinned (OpenSpec.ofChange fnRootClashWrong)

/-- 'laws.FnRootNeeds': WHATEVER THE INPUT: true; the input reads as it did. -/
def fnRootNeedsSpec : ChangeSpec := { name := "fnRootNeeds", fn := fun _ => fun
  | [d] => { results := [.lit (.bool true)], args := [d] }
  | _ => none }
def fnRootNeedsRow : OpenClaim := { program := "ytoljhgkgppjdcaagreat", sum := "8b1efb7da8e9b8cc098a69a9fa34ead2df8e41225b67846a257afff1f6f1359f", func := "loop.example/jackstay/laws.FnRootNeeds", spec := "fnRootNeeds", inPlace := ["internal/bytealg.IndexByteString", "slices.overlaps[string]", "slices.overlaps[loop.example/jackstay/impl.node]", "internal/bytealg.abigen_runtime_cmpstring", "slices.overlaps[loop.example/jackstay/impl.Pack]"], unfollowed := true, recurses := true, apart := false }
def FnRootNeedsSaid : Prop := fnRootNeedsRow.holds Tryz.pinned (OpenSpec.ofChange fnRootNeedsSpec)

/-- ITS FALSE NEIGHBOUR: 'it returns false'. Refute it at one input. -/
def fnRootNeedsWrong : ChangeSpec := { name := "fnRootNeeds", fn := fun _ => fun
  | [d] => { results := [.lit (.bool false)], args := [d] }
  | _ => none }
def FnRootNeedsWrongFalsely : Prop := fnRootNeedsRow.holds Tryz.pinned (OpenSpec.ofChange fnRootNeedsWrong)

/-- 'laws.FnRootOut': WHATEVER THE INPUT: true; the input reads as it did. -/
def fnRootOutSpec : ChangeSpec := { name := "fnRootOut", fn := fun _ => fun
  | [d] => { results := [.lit (.bool true)], args := [d] }
  | _ => none }
def fnRootOutRow : OpenClaim := { program := "ytoljhgkgppjdcaagreat", sum := "8b1efb7da8e9b8cc098a69a9fa34ead2df8e41225b67846a257afff1f6f1359f", func := "loop.example/jackstay/laws.FnRootOut", spec := "fnRootOut", inPlace := ["internal/bytealg.IndexByteString", "slices.overlaps[string]", "slices.overlaps[loop.example/jackstay/impl.node]", "internal/bytealg.abigen_runtime_cmpstring"], unfollowed := true, recurses := true, apart := false }
def FnRootOutSaid : Prop := fnRootOutRow.holds Tryz.pinned (OpenSpec.ofChange fnRootOutSpec)

/-- ITS FALSE NEIGHBOUR: 'it returns false'. Refute it at one input. -/
def fnRootOutWrong : ChangeSpec := { name := "fnRootOut", fn := fun _ => fun
  | [d] => { results := [.lit (.bool false)], args := [d] }
  | _ => none }
def FnRootOutWrongFalsely : Prop := fnRootOutRow.holds Tryz.pinned (OpenSpec.ofChange fnRootOutWrong)

/-- 'laws.FnRootOutAll': WHATEVER THE INPUT: true; the input reads as it did. -/
def fnRootOutAllSpec : ChangeSpec := { name := "fnRootOutAll", fn := fun _ => fun
  | [d] => { results := [.lit (.bool true)], args := [d] }
  | _ => none }
def fnRootOutAllRow : OpenClaim := { program := "ytoljhgkgppjdcaagreat", sum := "8b1efb7da8e9b8cc098a69a9fa34ead2df8e41225b67846a257afff1f6f1359f", func := "loop.example/jackstay/laws.FnRootOutAll", spec := "fnRootOutAll", inPlace := ["internal/bytealg.IndexByteString", "slices.overlaps[string]", "slices.overlaps[loop.example/jackstay/impl.node]", "internal/bytealg.abigen_runtime_cmpstring"], unfollowed := true, recurses := true, apart := false }
def FnRootOutAllSaid : Prop := fnRootOutAllRow.holds Tryz.pinned (OpenSpec.ofChange fnRootOutAllSpec)

/-- ITS FALSE NEIGHBOUR: 'it returns false'. Refute it at one input. -/
def fnRootOutAllWrong : ChangeSpec := { name := "fnRootOutAll", fn := fun _ => fun
  | [d] => { results := [.lit (.bool false)], args := [d] }
  | _ => none }
def FnRootOutAllWrongFalsely : Prop := fnRootOutAllRow.holds Tryz.pinned (OpenSpec.ofChange fnRootOutAllWrong)

/-- 'laws.FnTreePart': WHATEVER THE INPUT: true; the input reads as it did. -/
def fnTreePartSpec : ChangeSpec := { name := "fnTreePart", fn := fun _ => fun
  | [d] => { results := [.lit (.bool true)], args := [d] }
  | _ => none }
def fnTreePartRow : OpenClaim := { program := "ytoljhgkgppjdcaagreat", sum := "8b1efb7da8e9b8cc098a69a9fa34ead2df8e41225b67846a257afff1f6f1359f", func := "loop.example/jackstay/laws.FnTreePart", spec := "fnTreePart", inPlace := ["internal/bytealg.IndexByteString", "slices.overlaps[string]", "slices.overlaps[loop.example/jackstay/impl.node]"], unfollowed := true, recurses := true, apart := false }
def FnTreePartSaid : Prop := fnTreePartRow.holds Tryz.pinned (OpenSpec.ofChange fnTreePartSpec)

/-- ITS FALSE NEIGHBOUR: 'it returns false'. Refute it at one input. -/
def fnTreePartWrong : ChangeSpec := { name := "fnTreePart", fn := fun _ => fun
  | [d] => { results := [.lit (.bool false)], args := [d] }
  | _ => none }
def FnTreePartWrongFalsely : Prop := fnTreePartRow.holds Tryz.pinned (OpenSpec.ofChange fnTreePartWrong)

/- THE SECOND FORM. 'bulk': how many values and letters a reading holds, each counted each time it is reached (what is shared counts as often as it is met; a slice's spare places count too). A statement '..UptoSaid' is the law's where the arguments, and the package variables that the reading takes, are together of bulk at most 1048576: NARROWER than '..Said'. Prove '..Said' where nothing that the law and all that it calls make is longer than what came in: it says more and counts as full. Else prove '..UptoSaid'. A law counts once. -/
mutual
def uptoBulk {H : Type} : DataW H → Nat
  | .lit (.string bytes) => bytes.length + 1
  | .lit _ => 1
  | .nil => 1
  | .ptr d => uptoBulk d + 1
  | .slice elems spare => uptoBulkAll elems + uptoBulkAll spare + 1
  | .agg parts => uptoBulkAll parts + 1
  | .iface _ d => uptoBulk d + 1
  | .map entries => uptoBulkEntries entries + 1
  | .held _ => 1
def uptoBulkAll {H : Type} : List (DataW H) → Nat
  | [] => 0
  | d :: r => uptoBulk d + uptoBulkAll r
def uptoBulkEntries {H : Type} : List (Lit × DataW H) → Nat
  | [] => 0
  | x :: r => uptoBulkEntry x + uptoBulkEntries r
def uptoBulkEntry {H : Type} : Lit × DataW H → Nat
  | (.string bytes, d) => bytes.length + uptoBulk d + 1
  | (_, d) => uptoBulk d + 1
 end
def uptoSmall : (H : Type) → List (DataW H) → Bool := fun _ ds => decide (uptoBulkAll ds ≤ 1048576)
def OpenSpec.upto (s : _root_.Go.ChangeSpec) : _root_.Go.OpenSpec := { _root_.Go.OpenSpec.ofChange s with cond := some uptoSmall }

/-- 'laws.FnRootTree', WHERE WHAT IT READS IS OF BULK AT MOST 1048576: true; the input reads as it did. -/
def fnRootTreeUptoRow : OpenClaim := { program := "ytoljhgkgppjdcaagreat", sum := "8b1efb7da8e9b8cc098a69a9fa34ead2df8e41225b67846a257afff1f6f1359f", func := "loop.example/jackstay/laws.FnRootTree", spec := "fnRootTree", inPlace := ["internal/bytealg.IndexByteString", "slices.overlaps[string]", "slices.overlaps[loop.example/jackstay/impl.node]", "internal/bytealg.abigen_runtime_cmpstring"], unfollowed := true, recurses := true, apart := false, narrowed := true }
def FnRootTreeUptoSaid : Prop := fnRootTreeUptoRow.holds Tryz.pinned (OpenSpec.upto fnRootTreeSpec)

/-- 'laws.FnRootIn', WHERE WHAT IT READS IS OF BULK AT MOST 1048576: true; the input reads as it did. -/
def fnRootInUptoRow : OpenClaim := { program := "ytoljhgkgppjdcaagreat", sum := "8b1efb7da8e9b8cc098a69a9fa34ead2df8e41225b67846a257afff1f6f1359f", func := "loop.example/jackstay/laws.FnRootIn", spec := "fnRootIn", inPlace := ["internal/bytealg.IndexByteString", "slices.overlaps[string]", "slices.overlaps[loop.example/jackstay/impl.node]", "internal/bytealg.abigen_runtime_cmpstring", "slices.overlaps[loop.example/jackstay/impl.Pack]"], unfollowed := true, recurses := true, apart := false, narrowed := true }
def FnRootInUptoSaid : Prop := fnRootInUptoRow.holds Tryz.pinned (OpenSpec.upto fnRootInSpec)

/-- 'laws.FnRootSwap', WHERE WHAT IT READS IS OF BULK AT MOST 1048576: true; the input reads as it did. -/
def fnRootSwapUptoRow : OpenClaim := { program := "ytoljhgkgppjdcaagreat", sum := "8b1efb7da8e9b8cc098a69a9fa34ead2df8e41225b67846a257afff1f6f1359f", func := "loop.example/jackstay/laws.FnRootSwap", spec := "fnRootSwap", inPlace := ["internal/bytealg.IndexByteString", "slices.overlaps[string]", "slices.overlaps[loop.example/jackstay/impl.node]", "internal/bytealg.abigen_runtime_cmpstring", "slices.overlaps[loop.example/jackstay/impl.Pack]"], unfollowed := true, recurses := true, apart := false, narrowed := true }
def FnRootSwapUptoSaid : Prop := fnRootSwapUptoRow.holds Tryz.pinned (OpenSpec.upto fnRootSwapSpec)

/-- 'laws.FnRootOwner', WHERE WHAT IT READS IS OF BULK AT MOST 1048576: true; the input reads as it did. -/
def fnRootOwnerUptoRow : OpenClaim := { program := "ytoljhgkgppjdcaagreat", sum := "8b1efb7da8e9b8cc098a69a9fa34ead2df8e41225b67846a257afff1f6f1359f", func := "loop.example/jackstay/laws.FnRootOwner", spec := "fnRootOwner", inPlace := ["internal/bytealg.IndexByteString", "slices.overlaps[string]", "slices.overlaps[loop.example/jackstay/impl.node]", "internal/bytealg.abigen_runtime_cmpstring"], unfollowed := true, recurses := true, apart := false, narrowed := true }
def FnRootOwnerUptoSaid : Prop := fnRootOwnerUptoRow.holds Tryz.pinned (OpenSpec.upto fnRootOwnerSpec)

/-- 'laws.FnRootTwo', WHERE WHAT IT READS IS OF BULK AT MOST 1048576: true; the input reads as it did. -/
def fnRootTwoUptoRow : OpenClaim := { program := "ytoljhgkgppjdcaagreat", sum := "8b1efb7da8e9b8cc098a69a9fa34ead2df8e41225b67846a257afff1f6f1359f", func := "loop.example/jackstay/laws.FnRootTwo", spec := "fnRootTwo", inPlace := ["internal/bytealg.IndexByteString", "slices.overlaps[string]", "slices.overlaps[loop.example/jackstay/impl.node]", "internal/bytealg.abigen_runtime_cmpstring", "slices.overlaps[loop.example/jackstay/impl.Pack]"], unfollowed := true, recurses := true, apart := false, narrowed := true }
def FnRootTwoUptoSaid : Prop := fnRootTwoUptoRow.holds Tryz.pinned (OpenSpec.upto fnRootTwoSpec)

/-- 'laws.FnRootClash', WHERE WHAT IT READS IS OF BULK AT MOST 1048576: true; the input reads as it did. -/
def fnRootClashUptoRow : OpenClaim := { program := "ytoljhgkgppjdcaagreat", sum := "8b1efb7da8e9b8cc098a69a9fa34ead2df8e41225b67846a257afff1f6f1359f", func := "loop.example/jackstay/laws.FnRootClash", spec := "fnRootClash", inPlace := ["internal/bytealg.IndexByteString", "slices.overlaps[string]", "slices.overlaps[loop.example/jackstay/impl.node]", "internal/bytealg.abigen_runtime_cmpstring", "slices.overlaps[loop.example/jackstay/impl.Pack]"], unfollowed := true, recurses := true, apart := false, narrowed := true }
def FnRootClashUptoSaid : Prop := fnRootClashUptoRow.holds Tryz.pinned (OpenSpec.upto fnRootClashSpec)

/-- 'laws.FnRootNeeds', WHERE WHAT IT READS IS OF BULK AT MOST 1048576: true; the input reads as it did. -/
def fnRootNeedsUptoRow : OpenClaim := { program := "ytoljhgkgppjdcaagreat", sum := "8b1efb7da8e9b8cc098a69a9fa34ead2df8e41225b67846a257afff1f6f1359f", func := "loop.example/jackstay/laws.FnRootNeeds", spec := "fnRootNeeds", inPlace := ["internal/bytealg.IndexByteString", "slices.overlaps[string]", "slices.overlaps[loop.example/jackstay/impl.node]", "internal/bytealg.abigen_runtime_cmpstring", "slices.overlaps[loop.example/jackstay/impl.Pack]"], unfollowed := true, recurses := true, apart := false, narrowed := true }
def FnRootNeedsUptoSaid : Prop := fnRootNeedsUptoRow.holds Tryz.pinned (OpenSpec.upto fnRootNeedsSpec)

/-- 'laws.FnRootOut', WHERE WHAT IT READS IS OF BULK AT MOST 1048576: true; the input reads as it did. -/
def fnRootOutUptoRow : OpenClaim := { program := "ytoljhgkgppjdcaagreat", sum := "8b1efb7da8e9b8cc098a69a9fa34ead2df8e41225b67846a257afff1f6f1359f", func := "loop.example/jackstay/laws.FnRootOut", spec := "fnRootOut", inPlace := ["internal/bytealg.IndexByteString", "slices.overlaps[string]", "slices.overlaps[loop.example/jackstay/impl.node]", "internal/bytealg.abigen_runtime_cmpstring"], unfollowed := true, recurses := true, apart := false, narrowed := true }
def FnRootOutUptoSaid : Prop := fnRootOutUptoRow.holds Tryz.pinned (OpenSpec.upto fnRootOutSpec)

/-- 'laws.FnRootOutAll', WHERE WHAT IT READS IS OF BULK AT MOST 1048576: true; the input reads as it did. -/
def fnRootOutAllUptoRow : OpenClaim := { program := "ytoljhgkgppjdcaagreat", sum := "8b1efb7da8e9b8cc098a69a9fa34ead2df8e41225b67846a257afff1f6f1359f", func := "loop.example/jackstay/laws.FnRootOutAll", spec := "fnRootOutAll", inPlace := ["internal/bytealg.IndexByteString", "slices.overlaps[string]", "slices.overlaps[loop.example/jackstay/impl.node]", "internal/bytealg.abigen_runtime_cmpstring"], unfollowed := true, recurses := true, apart := false, narrowed := true }
def FnRootOutAllUptoSaid : Prop := fnRootOutAllUptoRow.holds Tryz.pinned (OpenSpec.upto fnRootOutAllSpec)

/-- 'laws.FnTreePart', WHERE WHAT IT READS IS OF BULK AT MOST 1048576: true; the input reads as it did. -/
def fnTreePartUptoRow : OpenClaim := { program := "ytoljhgkgppjdcaagreat", sum := "8b1efb7da8e9b8cc098a69a9fa34ead2df8e41225b67846a257afff1f6f1359f", func := "loop.example/jackstay/laws.FnTreePart", spec := "fnTreePart", inPlace := ["internal/bytealg.IndexByteString", "slices.overlaps[string]", "slices.overlaps[loop.example/jackstay/impl.node]"], unfollowed := true, recurses := true, apart := false, narrowed := true }
def FnTreePartUptoSaid : Prop := fnTreePartUptoRow.holds Tryz.pinned (OpenSpec.upto fnTreePartSpec)

end Rows
end Go.Proofs.YtoljhgkgppjdcaaGreat
