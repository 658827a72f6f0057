/-
  No cell of these rows narrows 'for every input' (looked for: loops, veiled, ifaces, maps, wideKeys, modest, calm, conditions, laid).
  DERIVED. THE GIVEN ROWS OF THIS SEAT. 12 by the template 'for every input the law returns true; each argument reads behind the call as it read before'; 0 by the template 'total and deterministic' (their statements: YtoihhlkidlapmaaGreatTotals.lean).
  GIVEN WITH THE SEED: the statements are not yours to turn. If you find one false, say at which input.
  Laid BY PROGRAM, IN A SANDBOX (cutbox-rows.mjs): the forced cells as the released guide's own fill.sh prints them over the translation aba4ebfb2bd95052… (all of the seat's roots in one cut). By AI agents, Wed Nov 11 2026. No macro, syntax, notation, axiom, sorry.
-/
import Derived.Test.YtoihhlkidlapmaaGreatChecked
import GoSem.Claim
import GoSem.ClaimJoined
import GoSem.ClaimMapViews
import Derived.JoinedTies
import Derived.KernelRfl
namespace Go.Proofs.YtoihhlkidlapmaaGreat
/- THE CELL 'sum', in the pinned program and in every row, IS THE sha256 OF THE DUMP (.gsa) THAT YtoihhlkidlapmaaGreatProg.lean LOADS. Nothing in Lean hashes anything: it is a label: what it is worth is what the hold of that sum in a sandbox is worth. -/
noncomputable def Tryz.pinned : Pinned := { name := "ytoihhlkidlapmaagreat", sum := "aba4ebfb2bd95052bcac07ecf9908479a4093e0b92c6a710e9ffe20f3c610c2a", checked := Tryz.checked }
namespace Rows
def none {H : Type} : Left H := { results := [], args := [] }

/-- 'laws.FnClosure': WHATEVER THE INPUT: true; the input reads as it did. -/
def fnClosureSpec : ChangeSpec := { name := "fnClosure", fn := fun _ => fun
  | [d] => { results := [.lit (.bool true)], args := [d] }
  | _ => none }
def fnClosureRow : OpenClaim := { program := "ytoihhlkidlapmaagreat", sum := "aba4ebfb2bd95052bcac07ecf9908479a4093e0b92c6a710e9ffe20f3c610c2a", func := "loop.example/jackstay/laws.FnClosure", spec := "fnClosure", inPlace := ["internal/bytealg.IndexByteString", "slices.overlaps[string]", "slices.overlaps[loop.example/jackstay/impl.node]"], unfollowed := true, recurses := true, apart := false }
def FnClosureSaid : Prop := fnClosureRow.holds Tryz.pinned (OpenSpec.ofChange fnClosureSpec)

/-- ITS FALSE NEIGHBOUR: 'it returns false'. Refute it at one input. -/
def fnClosureWrong : ChangeSpec := { name := "fnClosure", fn := fun _ => fun
  | [d] => { results := [.lit (.bool false)], args := [d] }
  | _ => none }
def FnClosureWrongFalsely : Prop := fnClosureRow.holds Tryz.pinned (OpenSpec.ofChange fnClosureWrong)

/-- 'laws.FnNeeders': WHATEVER THE INPUT: true; the input reads as it did. -/
def fnNeedersSpec : ChangeSpec := { name := "fnNeeders", fn := fun _ => fun
  | [d] => { results := [.lit (.bool true)], args := [d] }
  | _ => none }
def fnNeedersRow : OpenClaim := { program := "ytoihhlkidlapmaagreat", sum := "aba4ebfb2bd95052bcac07ecf9908479a4093e0b92c6a710e9ffe20f3c610c2a", func := "loop.example/jackstay/laws.FnNeeders", spec := "fnNeeders", inPlace := ["internal/bytealg.IndexByteString", "slices.overlaps[string]", "slices.overlaps[loop.example/jackstay/impl.node]"], unfollowed := true, recurses := true, apart := false }
def FnNeedersSaid : Prop := fnNeedersRow.holds Tryz.pinned (OpenSpec.ofChange fnNeedersSpec)

/-- ITS FALSE NEIGHBOUR: 'it returns false'. Refute it at one input. -/
def fnNeedersWrong : ChangeSpec := { name := "fnNeeders", fn := fun _ => fun
  | [d] => { results := [.lit (.bool false)], args := [d] }
  | _ => none }
def FnNeedersWrongFalsely : Prop := fnNeedersRow.holds Tryz.pinned (OpenSpec.ofChange fnNeedersWrong)

/-- 'laws.FnClosureOne': WHATEVER THE INPUT: true; the input reads as it did. -/
def fnClosureOneSpec : ChangeSpec := { name := "fnClosureOne", fn := fun _ => fun
  | [d] => { results := [.lit (.bool true)], args := [d] }
  | _ => none }
def fnClosureOneRow : OpenClaim := { program := "ytoihhlkidlapmaagreat", sum := "aba4ebfb2bd95052bcac07ecf9908479a4093e0b92c6a710e9ffe20f3c610c2a", func := "loop.example/jackstay/laws.FnClosureOne", spec := "fnClosureOne", inPlace := ["internal/bytealg.IndexByteString", "slices.overlaps[string]", "slices.overlaps[loop.example/jackstay/impl.node]"], unfollowed := true, recurses := true, apart := false }
def FnClosureOneSaid : Prop := fnClosureOneRow.holds Tryz.pinned (OpenSpec.ofChange fnClosureOneSpec)

/-- ITS FALSE NEIGHBOUR: 'it returns false'. Refute it at one input. -/
def fnClosureOneWrong : ChangeSpec := { name := "fnClosureOne", fn := fun _ => fun
  | [d] => { results := [.lit (.bool false)], args := [d] }
  | _ => none }
def FnClosureOneWrongFalsely : Prop := fnClosureOneRow.holds Tryz.pinned (OpenSpec.ofChange fnClosureOneWrong)

/-- 'laws.FnClosureNone': WHATEVER THE INPUT: true; the input reads as it did. -/
def fnClosureNoneSpec : ChangeSpec := { name := "fnClosureNone", fn := fun _ => fun
  | [d] => { results := [.lit (.bool true)], args := [d] }
  | _ => none }
def fnClosureNoneRow : OpenClaim := { program := "ytoihhlkidlapmaagreat", sum := "aba4ebfb2bd95052bcac07ecf9908479a4093e0b92c6a710e9ffe20f3c610c2a", func := "loop.example/jackstay/laws.FnClosureNone", spec := "fnClosureNone", inPlace := ["internal/bytealg.IndexByteString", "slices.overlaps[string]", "slices.overlaps[loop.example/jackstay/impl.node]"], unfollowed := true, recurses := true, apart := false }
def FnClosureNoneSaid : Prop := fnClosureNoneRow.holds Tryz.pinned (OpenSpec.ofChange fnClosureNoneSpec)

/-- ITS FALSE NEIGHBOUR: 'it returns false'. Refute it at one input. -/
def fnClosureNoneWrong : ChangeSpec := { name := "fnClosureNone", fn := fun _ => fun
  | [d] => { results := [.lit (.bool false)], args := [d] }
  | _ => none }
def FnClosureNoneWrongFalsely : Prop := fnClosureNoneRow.holds Tryz.pinned (OpenSpec.ofChange fnClosureNoneWrong)

/-- 'laws.FnExactClosure': WHATEVER THE INPUT: true; the input reads as it did. -/
def fnExactClosureSpec : ChangeSpec := { name := "fnExactClosure", fn := fun _ => fun
  | [d1, d2] => { results := [.lit (.bool true)], args := [d1, d2] }
  | _ => none }
def fnExactClosureRow : OpenClaim := { program := "ytoihhlkidlapmaagreat", sum := "aba4ebfb2bd95052bcac07ecf9908479a4093e0b92c6a710e9ffe20f3c610c2a", func := "loop.example/jackstay/laws.FnExactClosure", spec := "fnExactClosure", inPlace := ["internal/bytealg.IndexByteString", "slices.overlaps[string]", "slices.overlaps[loop.example/jackstay/impl.node]"], unfollowed := true, recurses := true, apart := false }
def FnExactClosureSaid : Prop := fnExactClosureRow.holds Tryz.pinned (OpenSpec.ofChange fnExactClosureSpec)

/-- ITS FALSE NEIGHBOUR: 'it returns false'. Refute it at one input. -/
def fnExactClosureWrong : ChangeSpec := { name := "fnExactClosure", fn := fun _ => fun
  | [d1, d2] => { results := [.lit (.bool false)], args := [d1, d2] }
  | _ => none }
def FnExactClosureWrongFalsely : Prop := fnExactClosureRow.holds Tryz.pinned (OpenSpec.ofChange fnExactClosureWrong)

/-- 'laws.FnExactNeeders': WHATEVER THE INPUT: true; the input reads as it did. -/
def fnExactNeedersSpec : ChangeSpec := { name := "fnExactNeeders", fn := fun _ => fun
  | [d1, d2] => { results := [.lit (.bool true)], args := [d1, d2] }
  | _ => none }
def fnExactNeedersRow : OpenClaim := { program := "ytoihhlkidlapmaagreat", sum := "aba4ebfb2bd95052bcac07ecf9908479a4093e0b92c6a710e9ffe20f3c610c2a", func := "loop.example/jackstay/laws.FnExactNeeders", spec := "fnExactNeeders", inPlace := ["internal/bytealg.IndexByteString", "slices.overlaps[string]", "slices.overlaps[loop.example/jackstay/impl.node]"], unfollowed := true, recurses := true, apart := false }
def FnExactNeedersSaid : Prop := fnExactNeedersRow.holds Tryz.pinned (OpenSpec.ofChange fnExactNeedersSpec)

/-- ITS FALSE NEIGHBOUR: 'it returns false'. Refute it at one input. -/
def fnExactNeedersWrong : ChangeSpec := { name := "fnExactNeeders", fn := fun _ => fun
  | [d1, d2] => { results := [.lit (.bool false)], args := [d1, d2] }
  | _ => none }
def FnExactNeedersWrongFalsely : Prop := fnExactNeedersRow.holds Tryz.pinned (OpenSpec.ofChange fnExactNeedersWrong)

/-- 'laws.FnRootOwner': WHATEVER THE INPUT: true; the input reads as it did. -/
def fnRootOwnerSpec : ChangeSpec := { name := "fnRootOwner", fn := fun _ => fun
  | [d] => { results := [.lit (.bool true)], args := [d] }
  | _ => none }
def fnRootOwnerRow : OpenClaim := { program := "ytoihhlkidlapmaagreat", sum := "aba4ebfb2bd95052bcac07ecf9908479a4093e0b92c6a710e9ffe20f3c610c2a", func := "loop.example/jackstay/laws.FnRootOwner", spec := "fnRootOwner", inPlace := ["internal/bytealg.IndexByteString", "slices.overlaps[string]", "slices.overlaps[loop.example/jackstay/impl.node]", "internal/bytealg.abigen_runtime_cmpstring"], unfollowed := true, recurses := true, apart := false }
def FnRootOwnerSaid : Prop := fnRootOwnerRow.holds Tryz.pinned (OpenSpec.ofChange fnRootOwnerSpec)

/-- ITS FALSE NEIGHBOUR: 'it returns false'. Refute it at one input. -/
def fnRootOwnerWrong : ChangeSpec := { name := "fnRootOwner", fn := fun _ => fun
  | [d] => { results := [.lit (.bool false)], args := [d] }
  | _ => none }
def FnRootOwnerWrongFalsely : Prop := fnRootOwnerRow.holds Tryz.pinned (OpenSpec.ofChange fnRootOwnerWrong)

/-- 'laws.FnRootOut': WHATEVER THE INPUT: true; the input reads as it did. -/
def fnRootOutSpec : ChangeSpec := { name := "fnRootOut", fn := fun _ => fun
  | [d] => { results := [.lit (.bool true)], args := [d] }
  | _ => none }
def fnRootOutRow : OpenClaim := { program := "ytoihhlkidlapmaagreat", sum := "aba4ebfb2bd95052bcac07ecf9908479a4093e0b92c6a710e9ffe20f3c610c2a", func := "loop.example/jackstay/laws.FnRootOut", spec := "fnRootOut", inPlace := ["internal/bytealg.IndexByteString", "slices.overlaps[string]", "slices.overlaps[loop.example/jackstay/impl.node]", "internal/bytealg.abigen_runtime_cmpstring"], unfollowed := true, recurses := true, apart := false }
def FnRootOutSaid : Prop := fnRootOutRow.holds Tryz.pinned (OpenSpec.ofChange fnRootOutSpec)

/-- ITS FALSE NEIGHBOUR: 'it returns false'. Refute it at one input. -/
def fnRootOutWrong : ChangeSpec := { name := "fnRootOut", fn := fun _ => fun
  | [d] => { results := [.lit (.bool false)], args := [d] }
  | _ => none }
def FnRootOutWrongFalsely : Prop := fnRootOutRow.holds Tryz.pinned (OpenSpec.ofChange fnRootOutWrong)

/-- 'laws.FnRootOutAll': WHATEVER THE INPUT: true; the input reads as it did. -/
def fnRootOutAllSpec : ChangeSpec := { name := "fnRootOutAll", fn := fun _ => fun
  | [d] => { results := [.lit (.bool true)], args := [d] }
  | _ => none }
def fnRootOutAllRow : OpenClaim := { program := "ytoihhlkidlapmaagreat", sum := "aba4ebfb2bd95052bcac07ecf9908479a4093e0b92c6a710e9ffe20f3c610c2a", func := "loop.example/jackstay/laws.FnRootOutAll", spec := "fnRootOutAll", inPlace := ["internal/bytealg.IndexByteString", "slices.overlaps[string]", "slices.overlaps[loop.example/jackstay/impl.node]", "internal/bytealg.abigen_runtime_cmpstring"], unfollowed := true, recurses := true, apart := false }
def FnRootOutAllSaid : Prop := fnRootOutAllRow.holds Tryz.pinned (OpenSpec.ofChange fnRootOutAllSpec)

/-- ITS FALSE NEIGHBOUR: 'it returns false'. Refute it at one input. -/
def fnRootOutAllWrong : ChangeSpec := { name := "fnRootOutAll", fn := fun _ => fun
  | [d] => { results := [.lit (.bool false)], args := [d] }
  | _ => none }
def FnRootOutAllWrongFalsely : Prop := fnRootOutAllRow.holds Tryz.pinned (OpenSpec.ofChange fnRootOutAllWrong)

/-- 'laws.FnRootTree': WHATEVER THE INPUT: true; the input reads as it did. -/
def fnRootTreeSpec : ChangeSpec := { name := "fnRootTree", fn := fun _ => fun
  | [d] => { results := [.lit (.bool true)], args := [d] }
  | _ => none }
def fnRootTreeRow : OpenClaim := { program := "ytoihhlkidlapmaagreat", sum := "aba4ebfb2bd95052bcac07ecf9908479a4093e0b92c6a710e9ffe20f3c610c2a", func := "loop.example/jackstay/laws.FnRootTree", spec := "fnRootTree", inPlace := ["internal/bytealg.IndexByteString", "slices.overlaps[string]", "slices.overlaps[loop.example/jackstay/impl.node]", "internal/bytealg.abigen_runtime_cmpstring"], unfollowed := true, recurses := true, apart := false }
def FnRootTreeSaid : Prop := fnRootTreeRow.holds Tryz.pinned (OpenSpec.ofChange fnRootTreeSpec)

/-- ITS FALSE NEIGHBOUR: 'it returns false'. Refute it at one input. -/
def fnRootTreeWrong : ChangeSpec := { name := "fnRootTree", fn := fun _ => fun
  | [d] => { results := [.lit (.bool false)], args := [d] }
  | _ => none }
def FnRootTreeWrongFalsely : Prop := fnRootTreeRow.holds Tryz.pinned (OpenSpec.ofChange fnRootTreeWrong)

/-- 'laws.FnRootIn': WHATEVER THE INPUT: true; the input reads as it did. -/
def fnRootInSpec : ChangeSpec := { name := "fnRootIn", fn := fun _ => fun
  | [d] => { results := [.lit (.bool true)], args := [d] }
  | _ => none }
def fnRootInRow : OpenClaim := { program := "ytoihhlkidlapmaagreat", sum := "aba4ebfb2bd95052bcac07ecf9908479a4093e0b92c6a710e9ffe20f3c610c2a", func := "loop.example/jackstay/laws.FnRootIn", spec := "fnRootIn", inPlace := ["internal/bytealg.IndexByteString", "slices.overlaps[string]", "slices.overlaps[loop.example/jackstay/impl.node]", "internal/bytealg.abigen_runtime_cmpstring", "slices.overlaps[loop.example/jackstay/impl.Pack]"], unfollowed := true, recurses := true, apart := false }
def FnRootInSaid : Prop := fnRootInRow.holds Tryz.pinned (OpenSpec.ofChange fnRootInSpec)

/-- ITS FALSE NEIGHBOUR: 'it returns false'. Refute it at one input. -/
def fnRootInWrong : ChangeSpec := { name := "fnRootIn", fn := fun _ => fun
  | [d] => { results := [.lit (.bool false)], args := [d] }
  | _ => none }
def FnRootInWrongFalsely : Prop := fnRootInRow.holds Tryz.pinned (OpenSpec.ofChange fnRootInWrong)

/-- 'laws.FnTreePart': WHATEVER THE INPUT: true; the input reads as it did. -/
def fnTreePartSpec : ChangeSpec := { name := "fnTreePart", fn := fun _ => fun
  | [d] => { results := [.lit (.bool true)], args := [d] }
  | _ => none }
def fnTreePartRow : OpenClaim := { program := "ytoihhlkidlapmaagreat", sum := "aba4ebfb2bd95052bcac07ecf9908479a4093e0b92c6a710e9ffe20f3c610c2a", func := "loop.example/jackstay/laws.FnTreePart", spec := "fnTreePart", inPlace := ["internal/bytealg.IndexByteString", "slices.overlaps[string]", "slices.overlaps[loop.example/jackstay/impl.node]"], unfollowed := true, recurses := true, apart := false }
def FnTreePartSaid : Prop := fnTreePartRow.holds Tryz.pinned (OpenSpec.ofChange fnTreePartSpec)

/-- ITS FALSE NEIGHBOUR: 'it returns false'. Refute it at one input. -/
def fnTreePartWrong : ChangeSpec := { name := "fnTreePart", fn := fun _ => fun
  | [d] => { results := [.lit (.bool false)], args := [d] }
  | _ => none }
def FnTreePartWrongFalsely : Prop := fnTreePartRow.holds Tryz.pinned (OpenSpec.ofChange fnTreePartWrong)

/- THE SECOND FORM. 'bulk': how many values and letters a reading holds, each counted each time it is reached (what is shared counts as often as it is met; a slice's spare places count too). A statement '..UptoSaid' is the law's where the arguments, and the package variables that the reading takes, are together of bulk at most 1048576: NARROWER than '..Said'. Prove '..Said' where nothing that the law and all that it calls make is longer than what came in: it says more and counts as full. Else prove '..UptoSaid'. A law counts once. -/
mutual
def uptoBulk {H : Type} : DataW H → Nat
  | .lit (.string bytes) => bytes.length + 1
  | .lit _ => 1
  | .nil => 1
  | .ptr d => uptoBulk d + 1
  | .slice elems spare => uptoBulkAll elems + uptoBulkAll spare + 1
  | .agg parts => uptoBulkAll parts + 1
  | .iface _ d => uptoBulk d + 1
  | .map entries => uptoBulkEntries entries + 1
  | .held _ => 1
def uptoBulkAll {H : Type} : List (DataW H) → Nat
  | [] => 0
  | d :: r => uptoBulk d + uptoBulkAll r
def uptoBulkEntries {H : Type} : List (Lit × DataW H) → Nat
  | [] => 0
  | x :: r => uptoBulkEntry x + uptoBulkEntries r
def uptoBulkEntry {H : Type} : Lit × DataW H → Nat
  | (.string bytes, d) => bytes.length + uptoBulk d + 1
  | (_, d) => uptoBulk d + 1
 end
def uptoSmall : (H : Type) → List (DataW H) → Bool := fun _ ds => decide (uptoBulkAll ds ≤ 1048576)
def OpenSpec.upto (s : _root_.Go.ChangeSpec) : _root_.Go.OpenSpec := { _root_.Go.OpenSpec.ofChange s with cond := some uptoSmall }

/-- 'laws.FnClosure', WHERE WHAT IT READS IS OF BULK AT MOST 1048576: true; the input reads as it did. -/
def fnClosureUptoRow : OpenClaim := { program := "ytoihhlkidlapmaagreat", sum := "aba4ebfb2bd95052bcac07ecf9908479a4093e0b92c6a710e9ffe20f3c610c2a", func := "loop.example/jackstay/laws.FnClosure", spec := "fnClosure", inPlace := ["internal/bytealg.IndexByteString", "slices.overlaps[string]", "slices.overlaps[loop.example/jackstay/impl.node]"], unfollowed := true, recurses := true, apart := false, narrowed := true }
def FnClosureUptoSaid : Prop := fnClosureUptoRow.holds Tryz.pinned (OpenSpec.upto fnClosureSpec)

/-- 'laws.FnNeeders', WHERE WHAT IT READS IS OF BULK AT MOST 1048576: true; the input reads as it did. -/
def fnNeedersUptoRow : OpenClaim := { program := "ytoihhlkidlapmaagreat", sum := "aba4ebfb2bd95052bcac07ecf9908479a4093e0b92c6a710e9ffe20f3c610c2a", func := "loop.example/jackstay/laws.FnNeeders", spec := "fnNeeders", inPlace := ["internal/bytealg.IndexByteString", "slices.overlaps[string]", "slices.overlaps[loop.example/jackstay/impl.node]"], unfollowed := true, recurses := true, apart := false, narrowed := true }
def FnNeedersUptoSaid : Prop := fnNeedersUptoRow.holds Tryz.pinned (OpenSpec.upto fnNeedersSpec)

/-- 'laws.FnClosureOne', WHERE WHAT IT READS IS OF BULK AT MOST 1048576: true; the input reads as it did. -/
def fnClosureOneUptoRow : OpenClaim := { program := "ytoihhlkidlapmaagreat", sum := "aba4ebfb2bd95052bcac07ecf9908479a4093e0b92c6a710e9ffe20f3c610c2a", func := "loop.example/jackstay/laws.FnClosureOne", spec := "fnClosureOne", inPlace := ["internal/bytealg.IndexByteString", "slices.overlaps[string]", "slices.overlaps[loop.example/jackstay/impl.node]"], unfollowed := true, recurses := true, apart := false, narrowed := true }
def FnClosureOneUptoSaid : Prop := fnClosureOneUptoRow.holds Tryz.pinned (OpenSpec.upto fnClosureOneSpec)

/-- 'laws.FnClosureNone', WHERE WHAT IT READS IS OF BULK AT MOST 1048576: true; the input reads as it did. -/
def fnClosureNoneUptoRow : OpenClaim := { program := "ytoihhlkidlapmaagreat", sum := "aba4ebfb2bd95052bcac07ecf9908479a4093e0b92c6a710e9ffe20f3c610c2a", func := "loop.example/jackstay/laws.FnClosureNone", spec := "fnClosureNone", inPlace := ["internal/bytealg.IndexByteString", "slices.overlaps[string]", "slices.overlaps[loop.example/jackstay/impl.node]"], unfollowed := true, recurses := true, apart := false, narrowed := true }
def FnClosureNoneUptoSaid : Prop := fnClosureNoneUptoRow.holds Tryz.pinned (OpenSpec.upto fnClosureNoneSpec)

/-- 'laws.FnExactClosure', WHERE WHAT IT READS IS OF BULK AT MOST 1048576: true; the input reads as it did. -/
def fnExactClosureUptoRow : OpenClaim := { program := "ytoihhlkidlapmaagreat", sum := "aba4ebfb2bd95052bcac07ecf9908479a4093e0b92c6a710e9ffe20f3c610c2a", func := "loop.example/jackstay/laws.FnExactClosure", spec := "fnExactClosure", inPlace := ["internal/bytealg.IndexByteString", "slices.overlaps[string]", "slices.overlaps[loop.example/jackstay/impl.node]"], unfollowed := true, recurses := true, apart := false, narrowed := true }
def FnExactClosureUptoSaid : Prop := fnExactClosureUptoRow.holds Tryz.pinned (OpenSpec.upto fnExactClosureSpec)

/-- 'laws.FnExactNeeders', WHERE WHAT IT READS IS OF BULK AT MOST 1048576: true; the input reads as it did. -/
def fnExactNeedersUptoRow : OpenClaim := { program := "ytoihhlkidlapmaagreat", sum := "aba4ebfb2bd95052bcac07ecf9908479a4093e0b92c6a710e9ffe20f3c610c2a", func := "loop.example/jackstay/laws.FnExactNeeders", spec := "fnExactNeeders", inPlace := ["internal/bytealg.IndexByteString", "slices.overlaps[string]", "slices.overlaps[loop.example/jackstay/impl.node]"], unfollowed := true, recurses := true, apart := false, narrowed := true }
def FnExactNeedersUptoSaid : Prop := fnExactNeedersUptoRow.holds Tryz.pinned (OpenSpec.upto fnExactNeedersSpec)

/-- 'laws.FnRootOwner', WHERE WHAT IT READS IS OF BULK AT MOST 1048576: true; the input reads as it did. -/
def fnRootOwnerUptoRow : OpenClaim := { program := "ytoihhlkidlapmaagreat", sum := "aba4ebfb2bd95052bcac07ecf9908479a4093e0b92c6a710e9ffe20f3c610c2a", func := "loop.example/jackstay/laws.FnRootOwner", spec := "fnRootOwner", inPlace := ["internal/bytealg.IndexByteString", "slices.overlaps[string]", "slices.overlaps[loop.example/jackstay/impl.node]", "internal/bytealg.abigen_runtime_cmpstring"], unfollowed := true, recurses := true, apart := false, narrowed := true }
def FnRootOwnerUptoSaid : Prop := fnRootOwnerUptoRow.holds Tryz.pinned (OpenSpec.upto fnRootOwnerSpec)

/-- 'laws.FnRootOut', WHERE WHAT IT READS IS OF BULK AT MOST 1048576: true; the input reads as it did. -/
def fnRootOutUptoRow : OpenClaim := { program := "ytoihhlkidlapmaagreat", sum := "aba4ebfb2bd95052bcac07ecf9908479a4093e0b92c6a710e9ffe20f3c610c2a", func := "loop.example/jackstay/laws.FnRootOut", spec := "fnRootOut", inPlace := ["internal/bytealg.IndexByteString", "slices.overlaps[string]", "slices.overlaps[loop.example/jackstay/impl.node]", "internal/bytealg.abigen_runtime_cmpstring"], unfollowed := true, recurses := true, apart := false, narrowed := true }
def FnRootOutUptoSaid : Prop := fnRootOutUptoRow.holds Tryz.pinned (OpenSpec.upto fnRootOutSpec)

/-- 'laws.FnRootOutAll', WHERE WHAT IT READS IS OF BULK AT MOST 1048576: true; the input reads as it did. -/
def fnRootOutAllUptoRow : OpenClaim := { program := "ytoihhlkidlapmaagreat", sum := "aba4ebfb2bd95052bcac07ecf9908479a4093e0b92c6a710e9ffe20f3c610c2a", func := "loop.example/jackstay/laws.FnRootOutAll", spec := "fnRootOutAll", inPlace := ["internal/bytealg.IndexByteString", "slices.overlaps[string]", "slices.overlaps[loop.example/jackstay/impl.node]", "internal/bytealg.abigen_runtime_cmpstring"], unfollowed := true, recurses := true, apart := false, narrowed := true }
def FnRootOutAllUptoSaid : Prop := fnRootOutAllUptoRow.holds Tryz.pinned (OpenSpec.upto fnRootOutAllSpec)

/-- 'laws.FnRootTree', WHERE WHAT IT READS IS OF BULK AT MOST 1048576: true; the input reads as it did. -/
def fnRootTreeUptoRow : OpenClaim := { program := "ytoihhlkidlapmaagreat", sum := "aba4ebfb2bd95052bcac07ecf9908479a4093e0b92c6a710e9ffe20f3c610c2a", func := "loop.example/jackstay/laws.FnRootTree", spec := "fnRootTree", inPlace := ["internal/bytealg.IndexByteString", "slices.overlaps[string]", "slices.overlaps[loop.example/jackstay/impl.node]", "internal/bytealg.abigen_runtime_cmpstring"], unfollowed := true, recurses := true, apart := false, narrowed := true }
def FnRootTreeUptoSaid : Prop := fnRootTreeUptoRow.holds Tryz.pinned (OpenSpec.upto fnRootTreeSpec)

/-- 'laws.FnRootIn', WHERE WHAT IT READS IS OF BULK AT MOST 1048576: true; the input reads as it did. -/
def fnRootInUptoRow : OpenClaim := { program := "ytoihhlkidlapmaagreat", sum := "aba4ebfb2bd95052bcac07ecf9908479a4093e0b92c6a710e9ffe20f3c610c2a", func := "loop.example/jackstay/laws.FnRootIn", spec := "fnRootIn", inPlace := ["internal/bytealg.IndexByteString", "slices.overlaps[string]", "slices.overlaps[loop.example/jackstay/impl.node]", "internal/bytealg.abigen_runtime_cmpstring", "slices.overlaps[loop.example/jackstay/impl.Pack]"], unfollowed := true, recurses := true, apart := false, narrowed := true }
def FnRootInUptoSaid : Prop := fnRootInUptoRow.holds Tryz.pinned (OpenSpec.upto fnRootInSpec)

/-- 'laws.FnTreePart', WHERE WHAT IT READS IS OF BULK AT MOST 1048576: true; the input reads as it did. -/
def fnTreePartUptoRow : OpenClaim := { program := "ytoihhlkidlapmaagreat", sum := "aba4ebfb2bd95052bcac07ecf9908479a4093e0b92c6a710e9ffe20f3c610c2a", func := "loop.example/jackstay/laws.FnTreePart", spec := "fnTreePart", inPlace := ["internal/bytealg.IndexByteString", "slices.overlaps[string]", "slices.overlaps[loop.example/jackstay/impl.node]"], unfollowed := true, recurses := true, apart := false, narrowed := true }
def FnTreePartUptoSaid : Prop := fnTreePartUptoRow.holds Tryz.pinned (OpenSpec.upto fnTreePartSpec)

end Rows
end Go.Proofs.YtoihhlkidlapmaaGreat
