/-
  No cell of these rows narrows 'for every input' (looked for: loops, veiled, ifaces, maps, wideKeys, modest, calm, conditions, laid).
  DERIVED. THE GIVEN ROWS OF THIS SEAT. 9 by the template 'for every input the law returns true; each argument reads behind the call as it read before'; 0 by the template 'total and deterministic' (their statements: YtlnpjiabdebmgaaGreatTotals.lean).
  GIVEN WITH THE SEED: the statements are not yours to turn. If you find one false, say at which input.
  Laid BY PROGRAM, IN A SANDBOX (cutbox-rows.mjs): the forced cells as the released guide's own fill.sh prints them over the translation fd3a8355dfef825b… (all of the seat's roots in one cut). By AI agents, Wed Nov 11 2026. No macro, syntax, notation, axiom, sorry.
-/
import Derived.Test.YtlnpjiabdebmgaaGreatChecked
import GoSem.Claim
import GoSem.ClaimJoined
import GoSem.ClaimMapViews
import Derived.JoinedTies
import Derived.KernelRfl
namespace Go.Proofs.YtlnpjiabdebmgaaGreat
/- THE CELL 'sum', in the pinned program and in every row, IS THE sha256 OF THE DUMP (.gsa) THAT YtlnpjiabdebmgaaGreatProg.lean LOADS. Nothing in Lean hashes anything: it is a label: what it is worth is what the hold of that sum in a sandbox is worth. -/
noncomputable def Tryz.pinned : Pinned := { name := "ytlnpjiabdebmgaagreat", sum := "fd3a8355dfef825bc3884c65d7b0adc5e737763803bf19d8ccf099247e925737", checked := Tryz.checked }
namespace Rows
def none {H : Type} : Left H := { results := [], args := [] }

/-- 'laws.FnExactPackOk': WHATEVER THE INPUT: true; the input reads as it did. -/
def fnExactPackOkSpec : ChangeSpec := { name := "fnExactPackOk", fn := fun _ => fun
  | [d] => { results := [.lit (.bool true)], args := [d] }
  | _ => none }
def fnExactPackOkRow : OpenClaim := { program := "ytlnpjiabdebmgaagreat", sum := "fd3a8355dfef825bc3884c65d7b0adc5e737763803bf19d8ccf099247e925737", func := "loop.example/jackstay/laws.FnExactPackOk", spec := "fnExactPackOk", inPlace := ["internal/bytealg.IndexByteString", "slices.overlaps[string]", "slices.overlaps[loop.example/jackstay/impl.node]"], unfollowed := true, recurses := true, apart := false }
def FnExactPackOkSaid : Prop := fnExactPackOkRow.holds Tryz.pinned (OpenSpec.ofChange fnExactPackOkSpec)

/-- ITS FALSE NEIGHBOUR: 'it returns false'. Refute it at one input. -/
def fnExactPackOkWrong : ChangeSpec := { name := "fnExactPackOk", fn := fun _ => fun
  | [d] => { results := [.lit (.bool false)], args := [d] }
  | _ => none }
def FnExactPackOkWrongFalsely : Prop := fnExactPackOkRow.holds Tryz.pinned (OpenSpec.ofChange fnExactPackOkWrong)

/-- 'laws.FnExactRootOk': WHATEVER THE INPUT: true; the input reads as it did. -/
def fnExactRootOkSpec : ChangeSpec := { name := "fnExactRootOk", fn := fun _ => fun
  | [d] => { results := [.lit (.bool true)], args := [d] }
  | _ => none }
def fnExactRootOkRow : OpenClaim := { program := "ytlnpjiabdebmgaagreat", sum := "fd3a8355dfef825bc3884c65d7b0adc5e737763803bf19d8ccf099247e925737", func := "loop.example/jackstay/laws.FnExactRootOk", spec := "fnExactRootOk", inPlace := ["internal/bytealg.IndexByteString", "slices.overlaps[string]", "slices.overlaps[loop.example/jackstay/impl.node]", "internal/bytealg.abigen_runtime_cmpstring"], unfollowed := true, recurses := true, apart := false }
def FnExactRootOkSaid : Prop := fnExactRootOkRow.holds Tryz.pinned (OpenSpec.ofChange fnExactRootOkSpec)

/-- ITS FALSE NEIGHBOUR: 'it returns false'. Refute it at one input. -/
def fnExactRootOkWrong : ChangeSpec := { name := "fnExactRootOk", fn := fun _ => fun
  | [d] => { results := [.lit (.bool false)], args := [d] }
  | _ => none }
def FnExactRootOkWrongFalsely : Prop := fnExactRootOkRow.holds Tryz.pinned (OpenSpec.ofChange fnExactRootOkWrong)

/-- 'laws.FnExactRootTree': WHATEVER THE INPUT: true; the input reads as it did. -/
def fnExactRootTreeSpec : ChangeSpec := { name := "fnExactRootTree", fn := fun _ => fun
  | [d] => { results := [.lit (.bool true)], args := [d] }
  | _ => none }
def fnExactRootTreeRow : OpenClaim := { program := "ytlnpjiabdebmgaagreat", sum := "fd3a8355dfef825bc3884c65d7b0adc5e737763803bf19d8ccf099247e925737", func := "loop.example/jackstay/laws.FnExactRootTree", spec := "fnExactRootTree", inPlace := ["internal/bytealg.IndexByteString", "slices.overlaps[string]", "slices.overlaps[loop.example/jackstay/impl.node]", "internal/bytealg.abigen_runtime_cmpstring"], unfollowed := true, recurses := true, apart := false }
def FnExactRootTreeSaid : Prop := fnExactRootTreeRow.holds Tryz.pinned (OpenSpec.ofChange fnExactRootTreeSpec)

/-- ITS FALSE NEIGHBOUR: 'it returns false'. Refute it at one input. -/
def fnExactRootTreeWrong : ChangeSpec := { name := "fnExactRootTree", fn := fun _ => fun
  | [d] => { results := [.lit (.bool false)], args := [d] }
  | _ => none }
def FnExactRootTreeWrongFalsely : Prop := fnExactRootTreeRow.holds Tryz.pinned (OpenSpec.ofChange fnExactRootTreeWrong)

/-- 'laws.FnExactRootIn': WHATEVER THE INPUT: true; the input reads as it did. -/
def fnExactRootInSpec : ChangeSpec := { name := "fnExactRootIn", fn := fun _ => fun
  | [d1, d2] => { results := [.lit (.bool true)], args := [d1, d2] }
  | _ => none }
def fnExactRootInRow : OpenClaim := { program := "ytlnpjiabdebmgaagreat", sum := "fd3a8355dfef825bc3884c65d7b0adc5e737763803bf19d8ccf099247e925737", func := "loop.example/jackstay/laws.FnExactRootIn", spec := "fnExactRootIn", inPlace := ["internal/bytealg.IndexByteString", "slices.overlaps[string]", "slices.overlaps[loop.example/jackstay/impl.node]", "internal/bytealg.abigen_runtime_cmpstring", "slices.overlaps[loop.example/jackstay/impl.Pack]"], unfollowed := true, recurses := true, apart := false }
def FnExactRootInSaid : Prop := fnExactRootInRow.holds Tryz.pinned (OpenSpec.ofChange fnExactRootInSpec)

/-- ITS FALSE NEIGHBOUR: 'it returns false'. Refute it at one input. -/
def fnExactRootInWrong : ChangeSpec := { name := "fnExactRootIn", fn := fun _ => fun
  | [d1, d2] => { results := [.lit (.bool false)], args := [d1, d2] }
  | _ => none }
def FnExactRootInWrongFalsely : Prop := fnExactRootInRow.holds Tryz.pinned (OpenSpec.ofChange fnExactRootInWrong)

/-- 'laws.FnExactRootOut': WHATEVER THE INPUT: true; the input reads as it did. -/
def fnExactRootOutSpec : ChangeSpec := { name := "fnExactRootOut", fn := fun _ => fun
  | [d1, d2] => { results := [.lit (.bool true)], args := [d1, d2] }
  | _ => none }
def fnExactRootOutRow : OpenClaim := { program := "ytlnpjiabdebmgaagreat", sum := "fd3a8355dfef825bc3884c65d7b0adc5e737763803bf19d8ccf099247e925737", func := "loop.example/jackstay/laws.FnExactRootOut", spec := "fnExactRootOut", inPlace := ["internal/bytealg.IndexByteString", "slices.overlaps[string]", "slices.overlaps[loop.example/jackstay/impl.node]", "internal/bytealg.abigen_runtime_cmpstring"], unfollowed := true, recurses := true, apart := false }
def FnExactRootOutSaid : Prop := fnExactRootOutRow.holds Tryz.pinned (OpenSpec.ofChange fnExactRootOutSpec)

/-- ITS FALSE NEIGHBOUR: 'it returns false'. Refute it at one input. -/
def fnExactRootOutWrong : ChangeSpec := { name := "fnExactRootOut", fn := fun _ => fun
  | [d1, d2] => { results := [.lit (.bool false)], args := [d1, d2] }
  | _ => none }
def FnExactRootOutWrongFalsely : Prop := fnExactRootOutRow.holds Tryz.pinned (OpenSpec.ofChange fnExactRootOutWrong)

/-- 'laws.FnExactRootSwap': WHATEVER THE INPUT: true; the input reads as it did. -/
def fnExactRootSwapSpec : ChangeSpec := { name := "fnExactRootSwap", fn := fun _ => fun
  | [d1, d2] => { results := [.lit (.bool true)], args := [d1, d2] }
  | _ => none }
def fnExactRootSwapRow : OpenClaim := { program := "ytlnpjiabdebmgaagreat", sum := "fd3a8355dfef825bc3884c65d7b0adc5e737763803bf19d8ccf099247e925737", func := "loop.example/jackstay/laws.FnExactRootSwap", spec := "fnExactRootSwap", inPlace := ["internal/bytealg.IndexByteString", "slices.overlaps[string]", "slices.overlaps[loop.example/jackstay/impl.node]", "internal/bytealg.abigen_runtime_cmpstring", "slices.overlaps[loop.example/jackstay/impl.Pack]"], unfollowed := true, recurses := true, apart := false }
def FnExactRootSwapSaid : Prop := fnExactRootSwapRow.holds Tryz.pinned (OpenSpec.ofChange fnExactRootSwapSpec)

/-- ITS FALSE NEIGHBOUR: 'it returns false'. Refute it at one input. -/
def fnExactRootSwapWrong : ChangeSpec := { name := "fnExactRootSwap", fn := fun _ => fun
  | [d1, d2] => { results := [.lit (.bool false)], args := [d1, d2] }
  | _ => none }
def FnExactRootSwapWrongFalsely : Prop := fnExactRootSwapRow.holds Tryz.pinned (OpenSpec.ofChange fnExactRootSwapWrong)

/-- 'laws.FnExactRootOwner': WHATEVER THE INPUT: true; the input reads as it did. -/
def fnExactRootOwnerSpec : ChangeSpec := { name := "fnExactRootOwner", fn := fun _ => fun
  | [d1, d2] => { results := [.lit (.bool true)], args := [d1, d2] }
  | _ => none }
def fnExactRootOwnerRow : OpenClaim := { program := "ytlnpjiabdebmgaagreat", sum := "fd3a8355dfef825bc3884c65d7b0adc5e737763803bf19d8ccf099247e925737", func := "loop.example/jackstay/laws.FnExactRootOwner", spec := "fnExactRootOwner", inPlace := ["internal/bytealg.IndexByteString", "slices.overlaps[string]", "slices.overlaps[loop.example/jackstay/impl.node]", "internal/bytealg.abigen_runtime_cmpstring"], unfollowed := true, recurses := true, apart := false }
def FnExactRootOwnerSaid : Prop := fnExactRootOwnerRow.holds Tryz.pinned (OpenSpec.ofChange fnExactRootOwnerSpec)

/-- ITS FALSE NEIGHBOUR: 'it returns false'. Refute it at one input. -/
def fnExactRootOwnerWrong : ChangeSpec := { name := "fnExactRootOwner", fn := fun _ => fun
  | [d1, d2] => { results := [.lit (.bool false)], args := [d1, d2] }
  | _ => none }
def FnExactRootOwnerWrongFalsely : Prop := fnExactRootOwnerRow.holds Tryz.pinned (OpenSpec.ofChange fnExactRootOwnerWrong)

/-- 'laws.FnExactClosure': WHATEVER THE INPUT: true; the input reads as it did. -/
def fnExactClosureSpec : ChangeSpec := { name := "fnExactClosure", fn := fun _ => fun
  | [d1, d2] => { results := [.lit (.bool true)], args := [d1, d2] }
  | _ => none }
def fnExactClosureRow : OpenClaim := { program := "ytlnpjiabdebmgaagreat", sum := "fd3a8355dfef825bc3884c65d7b0adc5e737763803bf19d8ccf099247e925737", func := "loop.example/jackstay/laws.FnExactClosure", spec := "fnExactClosure", inPlace := ["internal/bytealg.IndexByteString", "slices.overlaps[string]", "slices.overlaps[loop.example/jackstay/impl.node]"], unfollowed := true, recurses := true, apart := false }
def FnExactClosureSaid : Prop := fnExactClosureRow.holds Tryz.pinned (OpenSpec.ofChange fnExactClosureSpec)

/-- ITS FALSE NEIGHBOUR: 'it returns false'. Refute it at one input. -/
def fnExactClosureWrong : ChangeSpec := { name := "fnExactClosure", fn := fun _ => fun
  | [d1, d2] => { results := [.lit (.bool false)], args := [d1, d2] }
  | _ => none }
def FnExactClosureWrongFalsely : Prop := fnExactClosureRow.holds Tryz.pinned (OpenSpec.ofChange fnExactClosureWrong)

/-- 'laws.FnExactNeeders': WHATEVER THE INPUT: true; the input reads as it did. -/
def fnExactNeedersSpec : ChangeSpec := { name := "fnExactNeeders", fn := fun _ => fun
  | [d1, d2] => { results := [.lit (.bool true)], args := [d1, d2] }
  | _ => none }
def fnExactNeedersRow : OpenClaim := { program := "ytlnpjiabdebmgaagreat", sum := "fd3a8355dfef825bc3884c65d7b0adc5e737763803bf19d8ccf099247e925737", func := "loop.example/jackstay/laws.FnExactNeeders", spec := "fnExactNeeders", inPlace := ["internal/bytealg.IndexByteString", "slices.overlaps[string]", "slices.overlaps[loop.example/jackstay/impl.node]"], unfollowed := true, recurses := true, apart := false }
def FnExactNeedersSaid : Prop := fnExactNeedersRow.holds Tryz.pinned (OpenSpec.ofChange fnExactNeedersSpec)

/-- ITS FALSE NEIGHBOUR: 'it returns false'. Refute it at one input. -/
def fnExactNeedersWrong : ChangeSpec := { name := "fnExactNeeders", fn := fun _ => fun
  | [d1, d2] => { results := [.lit (.bool false)], args := [d1, d2] }
  | _ => none }
def FnExactNeedersWrongFalsely : Prop := fnExactNeedersRow.holds Tryz.pinned (OpenSpec.ofChange fnExactNeedersWrong)

/- THE SECOND FORM. 'bulk': how many values and letters a reading holds, each counted each time it is reached (what is shared counts as often as it is met; a slice's spare places count too). A statement '..UptoSaid' is the law's where the arguments, and the package variables that the reading takes, are together of bulk at most 1048576: NARROWER than '..Said'. Prove '..Said' where nothing that the law and all that it calls make is longer than what came in: it says more and counts as full. Else prove '..UptoSaid'. A law counts once. -/
mutual
def uptoBulk {H : Type} : DataW H → Nat
  | .lit (.string bytes) => bytes.length + 1
  | .lit _ => 1
  | .nil => 1
  | .ptr d => uptoBulk d + 1
  | .slice elems spare => uptoBulkAll elems + uptoBulkAll spare + 1
  | .agg parts => uptoBulkAll parts + 1
  | .iface _ d => uptoBulk d + 1
  | .map entries => uptoBulkEntries entries + 1
  | .held _ => 1
def uptoBulkAll {H : Type} : List (DataW H) → Nat
  | [] => 0
  | d :: r => uptoBulk d + uptoBulkAll r
def uptoBulkEntries {H : Type} : List (Lit × DataW H) → Nat
  | [] => 0
  | x :: r => uptoBulkEntry x + uptoBulkEntries r
def uptoBulkEntry {H : Type} : Lit × DataW H → Nat
  | (.string bytes, d) => bytes.length + uptoBulk d + 1
  | (_, d) => uptoBulk d + 1
 end
def uptoSmall : (H : Type) → List (DataW H) → Bool := fun _ ds => decide (uptoBulkAll ds ≤ 1048576)
def OpenSpec.upto (s : _root_.Go.ChangeSpec) : _root_.Go.OpenSpec := { _root_.Go.OpenSpec.ofChange s with cond := some uptoSmall }

/-- 'laws.FnExactPackOk', WHERE WHAT IT READS IS OF BULK AT MOST 1048576: true; the input reads as it did. -/
def fnExactPackOkUptoRow : OpenClaim := { program := "ytlnpjiabdebmgaagreat", sum := "fd3a8355dfef825bc3884c65d7b0adc5e737763803bf19d8ccf099247e925737", func := "loop.example/jackstay/laws.FnExactPackOk", spec := "fnExactPackOk", inPlace := ["internal/bytealg.IndexByteString", "slices.overlaps[string]", "slices.overlaps[loop.example/jackstay/impl.node]"], unfollowed := true, recurses := true, apart := false, narrowed := true }
def FnExactPackOkUptoSaid : Prop := fnExactPackOkUptoRow.holds Tryz.pinned (OpenSpec.upto fnExactPackOkSpec)

/-- 'laws.FnExactRootOk', WHERE WHAT IT READS IS OF BULK AT MOST 1048576: true; the input reads as it did. -/
def fnExactRootOkUptoRow : OpenClaim := { program := "ytlnpjiabdebmgaagreat", sum := "fd3a8355dfef825bc3884c65d7b0adc5e737763803bf19d8ccf099247e925737", func := "loop.example/jackstay/laws.FnExactRootOk", spec := "fnExactRootOk", inPlace := ["internal/bytealg.IndexByteString", "slices.overlaps[string]", "slices.overlaps[loop.example/jackstay/impl.node]", "internal/bytealg.abigen_runtime_cmpstring"], unfollowed := true, recurses := true, apart := false, narrowed := true }
def FnExactRootOkUptoSaid : Prop := fnExactRootOkUptoRow.holds Tryz.pinned (OpenSpec.upto fnExactRootOkSpec)

/-- 'laws.FnExactRootTree', WHERE WHAT IT READS IS OF BULK AT MOST 1048576: true; the input reads as it did. -/
def fnExactRootTreeUptoRow : OpenClaim := { program := "ytlnpjiabdebmgaagreat", sum := "fd3a8355dfef825bc3884c65d7b0adc5e737763803bf19d8ccf099247e925737", func := "loop.example/jackstay/laws.FnExactRootTree", spec := "fnExactRootTree", inPlace := ["internal/bytealg.IndexByteString", "slices.overlaps[string]", "slices.overlaps[loop.example/jackstay/impl.node]", "internal/bytealg.abigen_runtime_cmpstring"], unfollowed := true, recurses := true, apart := false, narrowed := true }
def FnExactRootTreeUptoSaid : Prop := fnExactRootTreeUptoRow.holds Tryz.pinned (OpenSpec.upto fnExactRootTreeSpec)

/-- 'laws.FnExactRootIn', WHERE WHAT IT READS IS OF BULK AT MOST 1048576: true; the input reads as it did. -/
def fnExactRootInUptoRow : OpenClaim := { program := "ytlnpjiabdebmgaagreat", sum := "fd3a8355dfef825bc3884c65d7b0adc5e737763803bf19d8ccf099247e925737", func := "loop.example/jackstay/laws.FnExactRootIn", spec := "fnExactRootIn", inPlace := ["internal/bytealg.IndexByteString", "slices.overlaps[string]", "slices.overlaps[loop.example/jackstay/impl.node]", "internal/bytealg.abigen_runtime_cmpstring", "slices.overlaps[loop.example/jackstay/impl.Pack]"], unfollowed := true, recurses := true, apart := false, narrowed := true }
def FnExactRootInUptoSaid : Prop := fnExactRootInUptoRow.holds Tryz.pinned (OpenSpec.upto fnExactRootInSpec)

/-- 'laws.FnExactRootOut', WHERE WHAT IT READS IS OF BULK AT MOST 1048576: true; the input reads as it did. -/
def fnExactRootOutUptoRow : OpenClaim := { program := "ytlnpjiabdebmgaagreat", sum := "fd3a8355dfef825bc3884c65d7b0adc5e737763803bf19d8ccf099247e925737", func := "loop.example/jackstay/laws.FnExactRootOut", spec := "fnExactRootOut", inPlace := ["internal/bytealg.IndexByteString", "slices.overlaps[string]", "slices.overlaps[loop.example/jackstay/impl.node]", "internal/bytealg.abigen_runtime_cmpstring"], unfollowed := true, recurses := true, apart := false, narrowed := true }
def FnExactRootOutUptoSaid : Prop := fnExactRootOutUptoRow.holds Tryz.pinned (OpenSpec.upto fnExactRootOutSpec)

/-- 'laws.FnExactRootSwap', WHERE WHAT IT READS IS OF BULK AT MOST 1048576: true; the input reads as it did. -/
def fnExactRootSwapUptoRow : OpenClaim := { program := "ytlnpjiabdebmgaagreat", sum := "fd3a8355dfef825bc3884c65d7b0adc5e737763803bf19d8ccf099247e925737", func := "loop.example/jackstay/laws.FnExactRootSwap", spec := "fnExactRootSwap", inPlace := ["internal/bytealg.IndexByteString", "slices.overlaps[string]", "slices.overlaps[loop.example/jackstay/impl.node]", "internal/bytealg.abigen_runtime_cmpstring", "slices.overlaps[loop.example/jackstay/impl.Pack]"], unfollowed := true, recurses := true, apart := false, narrowed := true }
def FnExactRootSwapUptoSaid : Prop := fnExactRootSwapUptoRow.holds Tryz.pinned (OpenSpec.upto fnExactRootSwapSpec)

/-- 'laws.FnExactRootOwner', WHERE WHAT IT READS IS OF BULK AT MOST 1048576: true; the input reads as it did. -/
def fnExactRootOwnerUptoRow : OpenClaim := { program := "ytlnpjiabdebmgaagreat", sum := "fd3a8355dfef825bc3884c65d7b0adc5e737763803bf19d8ccf099247e925737", func := "loop.example/jackstay/laws.FnExactRootOwner", spec := "fnExactRootOwner", inPlace := ["internal/bytealg.IndexByteString", "slices.overlaps[string]", "slices.overlaps[loop.example/jackstay/impl.node]", "internal/bytealg.abigen_runtime_cmpstring"], unfollowed := true, recurses := true, apart := false, narrowed := true }
def FnExactRootOwnerUptoSaid : Prop := fnExactRootOwnerUptoRow.holds Tryz.pinned (OpenSpec.upto fnExactRootOwnerSpec)

/-- 'laws.FnExactClosure', WHERE WHAT IT READS IS OF BULK AT MOST 1048576: true; the input reads as it did. -/
def fnExactClosureUptoRow : OpenClaim := { program := "ytlnpjiabdebmgaagreat", sum := "fd3a8355dfef825bc3884c65d7b0adc5e737763803bf19d8ccf099247e925737", func := "loop.example/jackstay/laws.FnExactClosure", spec := "fnExactClosure", inPlace := ["internal/bytealg.IndexByteString", "slices.overlaps[string]", "slices.overlaps[loop.example/jackstay/impl.node]"], unfollowed := true, recurses := true, apart := false, narrowed := true }
def FnExactClosureUptoSaid : Prop := fnExactClosureUptoRow.holds Tryz.pinned (OpenSpec.upto fnExactClosureSpec)

/-- 'laws.FnExactNeeders', WHERE WHAT IT READS IS OF BULK AT MOST 1048576: true; the input reads as it did. -/
def fnExactNeedersUptoRow : OpenClaim := { program := "ytlnpjiabdebmgaagreat", sum := "fd3a8355dfef825bc3884c65d7b0adc5e737763803bf19d8ccf099247e925737", func := "loop.example/jackstay/laws.FnExactNeeders", spec := "fnExactNeeders", inPlace := ["internal/bytealg.IndexByteString", "slices.overlaps[string]", "slices.overlaps[loop.example/jackstay/impl.node]"], unfollowed := true, recurses := true, apart := false, narrowed := true }
def FnExactNeedersUptoSaid : Prop := fnExactNeedersUptoRow.holds Tryz.pinned (OpenSpec.upto fnExactNeedersSpec)

end Rows
end Go.Proofs.YtlnpjiabdebmgaaGreat
