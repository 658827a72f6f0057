/-
  No cell of these rows narrows 'for every input' (looked for: loops, veiled, ifaces, maps, wideKeys, modest, calm, conditions, laid).
  DERIVED. THE GIVEN ROWS OF THIS SEAT. 7 by the template 'for every input the law returns true; each argument reads behind the call as it read before'; 0 by the template 'total and deterministic' (their statements: YtcggeolljfjnmaaTotals.lean).
  GIVEN WITH THE SEED: the statements are not yours to turn. If you find one false, say at which input.
  Laid BY PROGRAM, IN A SANDBOX (cutbox-rows.mjs): the forced cells as the released guide's own fill.sh prints them over the translation 3bcb13be98fd6e46… (all of the seat's roots in one cut). By AI agents, Wed Nov 11 2026. No macro, syntax, notation, axiom, sorry.
-/
import Derived.Test.YtcggeolljfjnmaaChecked
import GoSem.Claim
import GoSem.ClaimJoined
import GoSem.ClaimMapViews
import Derived.JoinedTies
import Derived.KernelRfl
namespace Go.Proofs.Ytcggeolljfjnmaa
/- THE CELL 'sum', in the pinned program and in every row, IS THE sha256 OF THE DUMP (.gsa) THAT YtcggeolljfjnmaaProg.lean LOADS. Nothing in Lean hashes anything: it is a label: what it is worth is what the hold of that sum in a sandbox is worth. -/
noncomputable def Try.pinned : Pinned := { name := "ytcggeolljfjnmaa", sum := "3bcb13be98fd6e462dc03c31a04d5b79801f818e67c50ee782edfb17994c354f", checked := Try.checked }
namespace Rows
def none {H : Type} : Left H := { results := [], args := [] }

/-- 'laws.FnNeedFits': WHATEVER THE INPUT: true; the input reads as it did. -/
def fnNeedFitsSpec : ChangeSpec := { name := "fnNeedFits", fn := fun _ => fun
  | [d] => { results := [.lit (.bool true)], args := [d] }
  | _ => none }
def fnNeedFitsRow : OpenClaim := { program := "ytcggeolljfjnmaa", sum := "3bcb13be98fd6e462dc03c31a04d5b79801f818e67c50ee782edfb17994c354f", func := "loop.example/jackstay/laws.FnNeedFits", spec := "fnNeedFits", inPlace := ["internal/bytealg.IndexByteString"], unfollowed := true, recurses := true, apart := false }
def FnNeedFitsSaid : Prop := fnNeedFitsRow.holds Try.pinned (OpenSpec.ofChange fnNeedFitsSpec)

/-- ITS FALSE NEIGHBOUR: 'it returns false'. Refute it at one input. -/
def fnNeedFitsWrong : ChangeSpec := { name := "fnNeedFits", fn := fun _ => fun
  | [d] => { results := [.lit (.bool false)], args := [d] }
  | _ => none }
def FnNeedFitsWrongFalsely : Prop := fnNeedFitsRow.holds Try.pinned (OpenSpec.ofChange fnNeedFitsWrong)

/-- 'laws.FnExactVersionOk': WHATEVER THE INPUT: true; the input reads as it did. -/
def fnExactVersionOkSpec : ChangeSpec := { name := "fnExactVersionOk", fn := fun _ => fun
  | [d] => { results := [.lit (.bool true)], args := [d] }
  | _ => none }
def fnExactVersionOkRow : OpenClaim := { program := "ytcggeolljfjnmaa", sum := "3bcb13be98fd6e462dc03c31a04d5b79801f818e67c50ee782edfb17994c354f", func := "loop.example/jackstay/laws.FnExactVersionOk", spec := "fnExactVersionOk", inPlace := ["internal/bytealg.IndexByteString"], unfollowed := true, recurses := true, apart := false }
def FnExactVersionOkSaid : Prop := fnExactVersionOkRow.holds Try.pinned (OpenSpec.ofChange fnExactVersionOkSpec)

/-- ITS FALSE NEIGHBOUR: 'it returns false'. Refute it at one input. -/
def fnExactVersionOkWrong : ChangeSpec := { name := "fnExactVersionOk", fn := fun _ => fun
  | [d] => { results := [.lit (.bool false)], args := [d] }
  | _ => none }
def FnExactVersionOkWrongFalsely : Prop := fnExactVersionOkRow.holds Try.pinned (OpenSpec.ofChange fnExactVersionOkWrong)

/-- 'laws.FnExactVersionOrder': WHATEVER THE INPUT: true; the input reads as it did. -/
def fnExactVersionOrderSpec : ChangeSpec := { name := "fnExactVersionOrder", fn := fun _ => fun
  | [d1, d2] => { results := [.lit (.bool true)], args := [d1, d2] }
  | _ => none }
def fnExactVersionOrderRow : OpenClaim := { program := "ytcggeolljfjnmaa", sum := "3bcb13be98fd6e462dc03c31a04d5b79801f818e67c50ee782edfb17994c354f", func := "loop.example/jackstay/laws.FnExactVersionOrder", spec := "fnExactVersionOrder", inPlace := ["internal/bytealg.IndexByteString"], unfollowed := true, recurses := true, apart := false }
def FnExactVersionOrderSaid : Prop := fnExactVersionOrderRow.holds Try.pinned (OpenSpec.ofChange fnExactVersionOrderSpec)

/-- ITS FALSE NEIGHBOUR: 'it returns false'. Refute it at one input. -/
def fnExactVersionOrderWrong : ChangeSpec := { name := "fnExactVersionOrder", fn := fun _ => fun
  | [d1, d2] => { results := [.lit (.bool false)], args := [d1, d2] }
  | _ => none }
def FnExactVersionOrderWrongFalsely : Prop := fnExactVersionOrderRow.holds Try.pinned (OpenSpec.ofChange fnExactVersionOrderWrong)

/-- 'laws.FnExactNeedOk': WHATEVER THE INPUT: true; the input reads as it did. -/
def fnExactNeedOkSpec : ChangeSpec := { name := "fnExactNeedOk", fn := fun _ => fun
  | [d] => { results := [.lit (.bool true)], args := [d] }
  | _ => none }
def fnExactNeedOkRow : OpenClaim := { program := "ytcggeolljfjnmaa", sum := "3bcb13be98fd6e462dc03c31a04d5b79801f818e67c50ee782edfb17994c354f", func := "loop.example/jackstay/laws.FnExactNeedOk", spec := "fnExactNeedOk", inPlace := ["internal/bytealg.IndexByteString"], unfollowed := true, recurses := true, apart := false }
def FnExactNeedOkSaid : Prop := fnExactNeedOkRow.holds Try.pinned (OpenSpec.ofChange fnExactNeedOkSpec)

/-- ITS FALSE NEIGHBOUR: 'it returns false'. Refute it at one input. -/
def fnExactNeedOkWrong : ChangeSpec := { name := "fnExactNeedOk", fn := fun _ => fun
  | [d] => { results := [.lit (.bool false)], args := [d] }
  | _ => none }
def FnExactNeedOkWrongFalsely : Prop := fnExactNeedOkRow.holds Try.pinned (OpenSpec.ofChange fnExactNeedOkWrong)

/-- 'laws.FnExactNeedPut': WHATEVER THE INPUT: true; the input reads as it did. -/
def fnExactNeedPutSpec : ChangeSpec := { name := "fnExactNeedPut", fn := fun _ => fun
  | [d] => { results := [.lit (.bool true)], args := [d] }
  | _ => none }
def fnExactNeedPutRow : OpenClaim := { program := "ytcggeolljfjnmaa", sum := "3bcb13be98fd6e462dc03c31a04d5b79801f818e67c50ee782edfb17994c354f", func := "loop.example/jackstay/laws.FnExactNeedPut", spec := "fnExactNeedPut", inPlace := ["internal/bytealg.IndexByteString"], unfollowed := true, recurses := true, apart := false }
def FnExactNeedPutSaid : Prop := fnExactNeedPutRow.holds Try.pinned (OpenSpec.ofChange fnExactNeedPutSpec)

/-- ITS FALSE NEIGHBOUR: 'it returns false'. Refute it at one input. -/
def fnExactNeedPutWrong : ChangeSpec := { name := "fnExactNeedPut", fn := fun _ => fun
  | [d] => { results := [.lit (.bool false)], args := [d] }
  | _ => none }
def FnExactNeedPutWrongFalsely : Prop := fnExactNeedPutRow.holds Try.pinned (OpenSpec.ofChange fnExactNeedPutWrong)

/-- 'laws.FnExactNeedGet': WHATEVER THE INPUT: true; the input reads as it did. -/
def fnExactNeedGetSpec : ChangeSpec := { name := "fnExactNeedGet", fn := fun _ => fun
  | [d] => { results := [.lit (.bool true)], args := [d] }
  | _ => none }
def fnExactNeedGetRow : OpenClaim := { program := "ytcggeolljfjnmaa", sum := "3bcb13be98fd6e462dc03c31a04d5b79801f818e67c50ee782edfb17994c354f", func := "loop.example/jackstay/laws.FnExactNeedGet", spec := "fnExactNeedGet", inPlace := ["internal/bytealg.IndexByteString"], unfollowed := true, recurses := true, apart := false }
def FnExactNeedGetSaid : Prop := fnExactNeedGetRow.holds Try.pinned (OpenSpec.ofChange fnExactNeedGetSpec)

/-- ITS FALSE NEIGHBOUR: 'it returns false'. Refute it at one input. -/
def fnExactNeedGetWrong : ChangeSpec := { name := "fnExactNeedGet", fn := fun _ => fun
  | [d] => { results := [.lit (.bool false)], args := [d] }
  | _ => none }
def FnExactNeedGetWrongFalsely : Prop := fnExactNeedGetRow.holds Try.pinned (OpenSpec.ofChange fnExactNeedGetWrong)

/-- 'laws.FnExactNeedFits': WHATEVER THE INPUT: true; the input reads as it did. -/
def fnExactNeedFitsSpec : ChangeSpec := { name := "fnExactNeedFits", fn := fun _ => fun
  | [d1, d2, d3] => { results := [.lit (.bool true)], args := [d1, d2, d3] }
  | _ => none }
def fnExactNeedFitsRow : OpenClaim := { program := "ytcggeolljfjnmaa", sum := "3bcb13be98fd6e462dc03c31a04d5b79801f818e67c50ee782edfb17994c354f", func := "loop.example/jackstay/laws.FnExactNeedFits", spec := "fnExactNeedFits", inPlace := ["internal/bytealg.IndexByteString"], unfollowed := true, recurses := true, apart := false }
def FnExactNeedFitsSaid : Prop := fnExactNeedFitsRow.holds Try.pinned (OpenSpec.ofChange fnExactNeedFitsSpec)

/-- ITS FALSE NEIGHBOUR: 'it returns false'. Refute it at one input. -/
def fnExactNeedFitsWrong : ChangeSpec := { name := "fnExactNeedFits", fn := fun _ => fun
  | [d1, d2, d3] => { results := [.lit (.bool false)], args := [d1, d2, d3] }
  | _ => none }
def FnExactNeedFitsWrongFalsely : Prop := fnExactNeedFitsRow.holds Try.pinned (OpenSpec.ofChange fnExactNeedFitsWrong)

/- THE SECOND FORM. 'bulk': how many values and letters a reading holds, each counted each time it is reached (what is shared counts as often as it is met; a slice's spare places count too). A statement '..UptoSaid' is the law's where the arguments, and the package variables that the reading takes, are together of bulk at most 1048576: NARROWER than '..Said'. Prove '..Said' where nothing that the law and all that it calls make is longer than what came in: it says more and counts as full. Else prove '..UptoSaid'. A law counts once. -/
mutual
def uptoBulk {H : Type} : DataW H → Nat
  | .lit (.string bytes) => bytes.length + 1
  | .lit _ => 1
  | .nil => 1
  | .ptr d => uptoBulk d + 1
  | .slice elems spare => uptoBulkAll elems + uptoBulkAll spare + 1
  | .agg parts => uptoBulkAll parts + 1
  | .iface _ d => uptoBulk d + 1
  | .map entries => uptoBulkEntries entries + 1
  | .held _ => 1
def uptoBulkAll {H : Type} : List (DataW H) → Nat
  | [] => 0
  | d :: r => uptoBulk d + uptoBulkAll r
def uptoBulkEntries {H : Type} : List (Lit × DataW H) → Nat
  | [] => 0
  | x :: r => uptoBulkEntry x + uptoBulkEntries r
def uptoBulkEntry {H : Type} : Lit × DataW H → Nat
  | (.string bytes, d) => bytes.length + uptoBulk d + 1
  | (_, d) => uptoBulk d + 1
 end
def uptoSmall : (H : Type) → List (DataW H) → Bool := fun _ ds => decide (uptoBulkAll ds ≤ 1048576)
def OpenSpec.upto (s : _root_.Go.ChangeSpec) : _root_.Go.OpenSpec := { _root_.Go.OpenSpec.ofChange s with cond := some uptoSmall }

/-- 'laws.FnNeedFits', WHERE WHAT IT READS IS OF BULK AT MOST 1048576: true; the input reads as it did. -/
def fnNeedFitsUptoRow : OpenClaim := { program := "ytcggeolljfjnmaa", sum := "3bcb13be98fd6e462dc03c31a04d5b79801f818e67c50ee782edfb17994c354f", func := "loop.example/jackstay/laws.FnNeedFits", spec := "fnNeedFits", inPlace := ["internal/bytealg.IndexByteString"], unfollowed := true, recurses := true, apart := false, narrowed := true }
def FnNeedFitsUptoSaid : Prop := fnNeedFitsUptoRow.holds Try.pinned (OpenSpec.upto fnNeedFitsSpec)

/-- 'laws.FnExactVersionOk', WHERE WHAT IT READS IS OF BULK AT MOST 1048576: true; the input reads as it did. -/
def fnExactVersionOkUptoRow : OpenClaim := { program := "ytcggeolljfjnmaa", sum := "3bcb13be98fd6e462dc03c31a04d5b79801f818e67c50ee782edfb17994c354f", func := "loop.example/jackstay/laws.FnExactVersionOk", spec := "fnExactVersionOk", inPlace := ["internal/bytealg.IndexByteString"], unfollowed := true, recurses := true, apart := false, narrowed := true }
def FnExactVersionOkUptoSaid : Prop := fnExactVersionOkUptoRow.holds Try.pinned (OpenSpec.upto fnExactVersionOkSpec)

/-- 'laws.FnExactVersionOrder', WHERE WHAT IT READS IS OF BULK AT MOST 1048576: true; the input reads as it did. -/
def fnExactVersionOrderUptoRow : OpenClaim := { program := "ytcggeolljfjnmaa", sum := "3bcb13be98fd6e462dc03c31a04d5b79801f818e67c50ee782edfb17994c354f", func := "loop.example/jackstay/laws.FnExactVersionOrder", spec := "fnExactVersionOrder", inPlace := ["internal/bytealg.IndexByteString"], unfollowed := true, recurses := true, apart := false, narrowed := true }
def FnExactVersionOrderUptoSaid : Prop := fnExactVersionOrderUptoRow.holds Try.pinned (OpenSpec.upto fnExactVersionOrderSpec)

/-- 'laws.FnExactNeedOk', WHERE WHAT IT READS IS OF BULK AT MOST 1048576: true; the input reads as it did. -/
def fnExactNeedOkUptoRow : OpenClaim := { program := "ytcggeolljfjnmaa", sum := "3bcb13be98fd6e462dc03c31a04d5b79801f818e67c50ee782edfb17994c354f", func := "loop.example/jackstay/laws.FnExactNeedOk", spec := "fnExactNeedOk", inPlace := ["internal/bytealg.IndexByteString"], unfollowed := true, recurses := true, apart := false, narrowed := true }
def FnExactNeedOkUptoSaid : Prop := fnExactNeedOkUptoRow.holds Try.pinned (OpenSpec.upto fnExactNeedOkSpec)

/-- 'laws.FnExactNeedPut', WHERE WHAT IT READS IS OF BULK AT MOST 1048576: true; the input reads as it did. -/
def fnExactNeedPutUptoRow : OpenClaim := { program := "ytcggeolljfjnmaa", sum := "3bcb13be98fd6e462dc03c31a04d5b79801f818e67c50ee782edfb17994c354f", func := "loop.example/jackstay/laws.FnExactNeedPut", spec := "fnExactNeedPut", inPlace := ["internal/bytealg.IndexByteString"], unfollowed := true, recurses := true, apart := false, narrowed := true }
def FnExactNeedPutUptoSaid : Prop := fnExactNeedPutUptoRow.holds Try.pinned (OpenSpec.upto fnExactNeedPutSpec)

/-- 'laws.FnExactNeedGet', WHERE WHAT IT READS IS OF BULK AT MOST 1048576: true; the input reads as it did. -/
def fnExactNeedGetUptoRow : OpenClaim := { program := "ytcggeolljfjnmaa", sum := "3bcb13be98fd6e462dc03c31a04d5b79801f818e67c50ee782edfb17994c354f", func := "loop.example/jackstay/laws.FnExactNeedGet", spec := "fnExactNeedGet", inPlace := ["internal/bytealg.IndexByteString"], unfollowed := true, recurses := true, apart := false, narrowed := true }
def FnExactNeedGetUptoSaid : Prop := fnExactNeedGetUptoRow.holds Try.pinned (OpenSpec.upto fnExactNeedGetSpec)

/-- 'laws.FnExactNeedFits', WHERE WHAT IT READS IS OF BULK AT MOST 1048576: true; the input reads as it did. -/
def fnExactNeedFitsUptoRow : OpenClaim := { program := "ytcggeolljfjnmaa", sum := "3bcb13be98fd6e462dc03c31a04d5b79801f818e67c50ee782edfb17994c354f", func := "loop.example/jackstay/laws.FnExactNeedFits", spec := "fnExactNeedFits", inPlace := ["internal/bytealg.IndexByteString"], unfollowed := true, recurses := true, apart := false, narrowed := true }
def FnExactNeedFitsUptoSaid : Prop := fnExactNeedFitsUptoRow.holds Try.pinned (OpenSpec.upto fnExactNeedFitsSpec)

end Rows
end Go.Proofs.Ytcggeolljfjnmaa
