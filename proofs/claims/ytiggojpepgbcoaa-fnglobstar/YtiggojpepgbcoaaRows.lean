/-
  No cell of these rows narrows 'for every input' (looked for: loops, veiled, ifaces, maps, wideKeys, modest, calm, conditions, laid).
  DERIVED. THE GIVEN ROWS OF THIS SEAT. 6 by the template 'for every input the law returns true; each argument reads behind the call as it read before'; 0 by the template 'total and deterministic' (their statements: YtiggojpepgbcoaaTotals.lean).
  GIVEN WITH THE SEED: the statements are not yours to turn. If you find one false, say at which input.
  Laid BY PROGRAM, IN A SANDBOX (cutbox-rows.mjs): the forced cells as the released guide's own fill.sh prints them over the translation 9194c697c3367c59… (all of the seat's roots in one cut). By AI agents, Wed Nov 11 2026. No macro, syntax, notation, axiom, sorry.
-/
import Derived.Test.YtiggojpepgbcoaaChecked
import GoSem.Claim
import GoSem.ClaimJoined
import GoSem.ClaimMapViews
import Derived.JoinedTies
import Derived.KernelRfl
namespace Go.Proofs.Ytiggojpepgbcoaa
/- THE CELL 'sum', in the pinned program and in every row, IS THE sha256 OF THE DUMP (.gsa) THAT YtiggojpepgbcoaaProg.lean LOADS. Nothing in Lean hashes anything: it is a label: what it is worth is what the hold of that sum in a sandbox is worth. -/
noncomputable def Try.pinned : Pinned := { name := "ytiggojpepgbcoaa", sum := "9194c697c3367c5938fd699459f5474b9ae7835d621507aba48199121a283d70", checked := Try.checked }
namespace Rows
def none {H : Type} : Left H := { results := [], args := [] }

/-- 'laws.FnGlob': WHATEVER THE INPUT: true; the input reads as it did. -/
def fnGlobSpec : ChangeSpec := { name := "fnGlob", fn := fun _ => fun
  | [d] => { results := [.lit (.bool true)], args := [d] }
  | _ => none }
def fnGlobRow : OpenClaim := { program := "ytiggojpepgbcoaa", sum := "9194c697c3367c5938fd699459f5474b9ae7835d621507aba48199121a283d70", func := "loop.example/jackstay/laws.FnGlob", spec := "fnGlob", inPlace := ["internal/bytealg.IndexByteString"], unfollowed := true, recurses := true, apart := false }
def FnGlobSaid : Prop := fnGlobRow.holds Try.pinned (OpenSpec.ofChange fnGlobSpec)

/-- ITS FALSE NEIGHBOUR: 'it returns false'. Refute it at one input. -/
def fnGlobWrong : ChangeSpec := { name := "fnGlob", fn := fun _ => fun
  | [d] => { results := [.lit (.bool false)], args := [d] }
  | _ => none }
def FnGlobWrongFalsely : Prop := fnGlobRow.holds Try.pinned (OpenSpec.ofChange fnGlobWrong)

/-- 'laws.FnGlobStar': WHATEVER THE INPUT: true; the input reads as it did. -/
def fnGlobStarSpec : ChangeSpec := { name := "fnGlobStar", fn := fun _ => fun
  | [d] => { results := [.lit (.bool true)], args := [d] }
  | _ => none }
def fnGlobStarRow : OpenClaim := { program := "ytiggojpepgbcoaa", sum := "9194c697c3367c5938fd699459f5474b9ae7835d621507aba48199121a283d70", func := "loop.example/jackstay/laws.FnGlobStar", spec := "fnGlobStar", inPlace := ["internal/bytealg.IndexByteString"], unfollowed := true, recurses := true, apart := false }
def FnGlobStarSaid : Prop := fnGlobStarRow.holds Try.pinned (OpenSpec.ofChange fnGlobStarSpec)

/-- ITS FALSE NEIGHBOUR: 'it returns false'. Refute it at one input. -/
def fnGlobStarWrong : ChangeSpec := { name := "fnGlobStar", fn := fun _ => fun
  | [d] => { results := [.lit (.bool false)], args := [d] }
  | _ => none }
def FnGlobStarWrongFalsely : Prop := fnGlobStarRow.holds Try.pinned (OpenSpec.ofChange fnGlobStarWrong)

/-- 'laws.FnGlobClass': WHATEVER THE INPUT: true; the input reads as it did. -/
def fnGlobClassSpec : ChangeSpec := { name := "fnGlobClass", fn := fun _ => fun
  | [d] => { results := [.lit (.bool true)], args := [d] }
  | _ => none }
def fnGlobClassRow : OpenClaim := { program := "ytiggojpepgbcoaa", sum := "9194c697c3367c5938fd699459f5474b9ae7835d621507aba48199121a283d70", func := "loop.example/jackstay/laws.FnGlobClass", spec := "fnGlobClass", inPlace := ["internal/bytealg.IndexByteString"], unfollowed := true, recurses := true, apart := false }
def FnGlobClassSaid : Prop := fnGlobClassRow.holds Try.pinned (OpenSpec.ofChange fnGlobClassSpec)

/-- ITS FALSE NEIGHBOUR: 'it returns false'. Refute it at one input. -/
def fnGlobClassWrong : ChangeSpec := { name := "fnGlobClass", fn := fun _ => fun
  | [d] => { results := [.lit (.bool false)], args := [d] }
  | _ => none }
def FnGlobClassWrongFalsely : Prop := fnGlobClassRow.holds Try.pinned (OpenSpec.ofChange fnGlobClassWrong)

/-- 'laws.FnGlobDeep': WHATEVER THE INPUT: true; the input reads as it did. -/
def fnGlobDeepSpec : ChangeSpec := { name := "fnGlobDeep", fn := fun _ => fun
  | [d] => { results := [.lit (.bool true)], args := [d] }
  | _ => none }
def fnGlobDeepRow : OpenClaim := { program := "ytiggojpepgbcoaa", sum := "9194c697c3367c5938fd699459f5474b9ae7835d621507aba48199121a283d70", func := "loop.example/jackstay/laws.FnGlobDeep", spec := "fnGlobDeep", inPlace := ["internal/bytealg.IndexByteString"], unfollowed := true, recurses := true, apart := false }
def FnGlobDeepSaid : Prop := fnGlobDeepRow.holds Try.pinned (OpenSpec.ofChange fnGlobDeepSpec)

/-- ITS FALSE NEIGHBOUR: 'it returns false'. Refute it at one input. -/
def fnGlobDeepWrong : ChangeSpec := { name := "fnGlobDeep", fn := fun _ => fun
  | [d] => { results := [.lit (.bool false)], args := [d] }
  | _ => none }
def FnGlobDeepWrongFalsely : Prop := fnGlobDeepRow.holds Try.pinned (OpenSpec.ofChange fnGlobDeepWrong)

/-- 'laws.FnExactGlobOk': WHATEVER THE INPUT: true; the input reads as it did. -/
def fnExactGlobOkSpec : ChangeSpec := { name := "fnExactGlobOk", fn := fun _ => fun
  | [d] => { results := [.lit (.bool true)], args := [d] }
  | _ => none }
def fnExactGlobOkRow : OpenClaim := { program := "ytiggojpepgbcoaa", sum := "9194c697c3367c5938fd699459f5474b9ae7835d621507aba48199121a283d70", func := "loop.example/jackstay/laws.FnExactGlobOk", spec := "fnExactGlobOk", inPlace := ["internal/bytealg.IndexByteString"], unfollowed := true, recurses := true, apart := false }
def FnExactGlobOkSaid : Prop := fnExactGlobOkRow.holds Try.pinned (OpenSpec.ofChange fnExactGlobOkSpec)

/-- ITS FALSE NEIGHBOUR: 'it returns false'. Refute it at one input. -/
def fnExactGlobOkWrong : ChangeSpec := { name := "fnExactGlobOk", fn := fun _ => fun
  | [d] => { results := [.lit (.bool false)], args := [d] }
  | _ => none }
def FnExactGlobOkWrongFalsely : Prop := fnExactGlobOkRow.holds Try.pinned (OpenSpec.ofChange fnExactGlobOkWrong)

/-- 'laws.FnExactGlobHas': WHATEVER THE INPUT: true; the input reads as it did. -/
def fnExactGlobHasSpec : ChangeSpec := { name := "fnExactGlobHas", fn := fun _ => fun
  | [d1, d2] => { results := [.lit (.bool true)], args := [d1, d2] }
  | _ => none }
def fnExactGlobHasRow : OpenClaim := { program := "ytiggojpepgbcoaa", sum := "9194c697c3367c5938fd699459f5474b9ae7835d621507aba48199121a283d70", func := "loop.example/jackstay/laws.FnExactGlobHas", spec := "fnExactGlobHas", inPlace := ["internal/bytealg.IndexByteString"], unfollowed := true, recurses := true, apart := false }
def FnExactGlobHasSaid : Prop := fnExactGlobHasRow.holds Try.pinned (OpenSpec.ofChange fnExactGlobHasSpec)

/-- ITS FALSE NEIGHBOUR: 'it returns false'. Refute it at one input. -/
def fnExactGlobHasWrong : ChangeSpec := { name := "fnExactGlobHas", fn := fun _ => fun
  | [d1, d2] => { results := [.lit (.bool false)], args := [d1, d2] }
  | _ => none }
def FnExactGlobHasWrongFalsely : Prop := fnExactGlobHasRow.holds Try.pinned (OpenSpec.ofChange fnExactGlobHasWrong)

/- THE SECOND FORM. 'bulk': how many values and letters a reading holds, each counted each time it is reached (what is shared counts as often as it is met; a slice's spare places count too). A statement '..UptoSaid' is the law's where the arguments, and the package variables that the reading takes, are together of bulk at most 1048576: NARROWER than '..Said'. Prove '..Said' where nothing that the law and all that it calls make is longer than what came in: it says more and counts as full. Else prove '..UptoSaid'. A law counts once. -/
mutual
def uptoBulk {H : Type} : DataW H → Nat
  | .lit (.string bytes) => bytes.length + 1
  | .lit _ => 1
  | .nil => 1
  | .ptr d => uptoBulk d + 1
  | .slice elems spare => uptoBulkAll elems + uptoBulkAll spare + 1
  | .agg parts => uptoBulkAll parts + 1
  | .iface _ d => uptoBulk d + 1
  | .map entries => uptoBulkEntries entries + 1
  | .held _ => 1
def uptoBulkAll {H : Type} : List (DataW H) → Nat
  | [] => 0
  | d :: r => uptoBulk d + uptoBulkAll r
def uptoBulkEntries {H : Type} : List (Lit × DataW H) → Nat
  | [] => 0
  | x :: r => uptoBulkEntry x + uptoBulkEntries r
def uptoBulkEntry {H : Type} : Lit × DataW H → Nat
  | (.string bytes, d) => bytes.length + uptoBulk d + 1
  | (_, d) => uptoBulk d + 1
 end
def uptoSmall : (H : Type) → List (DataW H) → Bool := fun _ ds => decide (uptoBulkAll ds ≤ 1048576)
def OpenSpec.upto (s : _root_.Go.ChangeSpec) : _root_.Go.OpenSpec := { _root_.Go.OpenSpec.ofChange s with cond := some uptoSmall }

/-- 'laws.FnGlob', WHERE WHAT IT READS IS OF BULK AT MOST 1048576: true; the input reads as it did. -/
def fnGlobUptoRow : OpenClaim := { program := "ytiggojpepgbcoaa", sum := "9194c697c3367c5938fd699459f5474b9ae7835d621507aba48199121a283d70", func := "loop.example/jackstay/laws.FnGlob", spec := "fnGlob", inPlace := ["internal/bytealg.IndexByteString"], unfollowed := true, recurses := true, apart := false, narrowed := true }
def FnGlobUptoSaid : Prop := fnGlobUptoRow.holds Try.pinned (OpenSpec.upto fnGlobSpec)

/-- 'laws.FnGlobStar', WHERE WHAT IT READS IS OF BULK AT MOST 1048576: true; the input reads as it did. -/
def fnGlobStarUptoRow : OpenClaim := { program := "ytiggojpepgbcoaa", sum := "9194c697c3367c5938fd699459f5474b9ae7835d621507aba48199121a283d70", func := "loop.example/jackstay/laws.FnGlobStar", spec := "fnGlobStar", inPlace := ["internal/bytealg.IndexByteString"], unfollowed := true, recurses := true, apart := false, narrowed := true }
def FnGlobStarUptoSaid : Prop := fnGlobStarUptoRow.holds Try.pinned (OpenSpec.upto fnGlobStarSpec)

/-- 'laws.FnGlobClass', WHERE WHAT IT READS IS OF BULK AT MOST 1048576: true; the input reads as it did. -/
def fnGlobClassUptoRow : OpenClaim := { program := "ytiggojpepgbcoaa", sum := "9194c697c3367c5938fd699459f5474b9ae7835d621507aba48199121a283d70", func := "loop.example/jackstay/laws.FnGlobClass", spec := "fnGlobClass", inPlace := ["internal/bytealg.IndexByteString"], unfollowed := true, recurses := true, apart := false, narrowed := true }
def FnGlobClassUptoSaid : Prop := fnGlobClassUptoRow.holds Try.pinned (OpenSpec.upto fnGlobClassSpec)

/-- 'laws.FnGlobDeep', WHERE WHAT IT READS IS OF BULK AT MOST 1048576: true; the input reads as it did. -/
def fnGlobDeepUptoRow : OpenClaim := { program := "ytiggojpepgbcoaa", sum := "9194c697c3367c5938fd699459f5474b9ae7835d621507aba48199121a283d70", func := "loop.example/jackstay/laws.FnGlobDeep", spec := "fnGlobDeep", inPlace := ["internal/bytealg.IndexByteString"], unfollowed := true, recurses := true, apart := false, narrowed := true }
def FnGlobDeepUptoSaid : Prop := fnGlobDeepUptoRow.holds Try.pinned (OpenSpec.upto fnGlobDeepSpec)

/-- 'laws.FnExactGlobOk', WHERE WHAT IT READS IS OF BULK AT MOST 1048576: true; the input reads as it did. -/
def fnExactGlobOkUptoRow : OpenClaim := { program := "ytiggojpepgbcoaa", sum := "9194c697c3367c5938fd699459f5474b9ae7835d621507aba48199121a283d70", func := "loop.example/jackstay/laws.FnExactGlobOk", spec := "fnExactGlobOk", inPlace := ["internal/bytealg.IndexByteString"], unfollowed := true, recurses := true, apart := false, narrowed := true }
def FnExactGlobOkUptoSaid : Prop := fnExactGlobOkUptoRow.holds Try.pinned (OpenSpec.upto fnExactGlobOkSpec)

/-- 'laws.FnExactGlobHas', WHERE WHAT IT READS IS OF BULK AT MOST 1048576: true; the input reads as it did. -/
def fnExactGlobHasUptoRow : OpenClaim := { program := "ytiggojpepgbcoaa", sum := "9194c697c3367c5938fd699459f5474b9ae7835d621507aba48199121a283d70", func := "loop.example/jackstay/laws.FnExactGlobHas", spec := "fnExactGlobHas", inPlace := ["internal/bytealg.IndexByteString"], unfollowed := true, recurses := true, apart := false, narrowed := true }
def FnExactGlobHasUptoSaid : Prop := fnExactGlobHasUptoRow.holds Try.pinned (OpenSpec.upto fnExactGlobHasSpec)

end Rows
end Go.Proofs.Ytiggojpepgbcoaa
