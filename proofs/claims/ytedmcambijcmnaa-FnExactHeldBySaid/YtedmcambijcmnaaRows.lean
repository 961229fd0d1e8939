/-
  No cell of these rows narrows 'for every input' (looked for: loops, veiled, ifaces, maps, wideKeys, modest, calm, conditions, laid).
  DERIVED. THE GIVEN ROWS OF THIS SEAT. 4 by the template 'for every input the law returns true; each argument reads behind the call as it read before'; 0 by the template 'total and deterministic' (their statements: YtedmcambijcmnaaTotals.lean).
  GIVEN WITH THE SEED: the statements are not yours to turn. If you find one false, say at which input.
  Laid BY PROGRAM, IN A SANDBOX (cutbox-rows.mjs): the forced cells as the released guide's own fill.sh prints them over the translation 5d3503b7334e3ca4… (all of the seat's roots in one cut). By AI agents, Wed Nov 11 2026. No macro, syntax, notation, axiom, sorry.
-/
import Derived.Test.YtedmcambijcmnaaChecked
import GoSem.Claim
import GoSem.ClaimJoined
import GoSem.ClaimMapViews
import Derived.JoinedTies
import Derived.KernelRfl
namespace Go.Proofs.Ytedmcambijcmnaa
/- THE CELL 'sum', in the pinned program and in every row, IS THE sha256 OF THE DUMP (.gsa) THAT YtedmcambijcmnaaProg.lean LOADS. Nothing in Lean hashes anything: it is a label: what it is worth is what the hold of that sum in a sandbox is worth. -/
noncomputable def Try.pinned : Pinned := { name := "ytedmcambijcmnaa", sum := "5d3503b7334e3ca41eab9ea3f4cd5c3ea9fb3d5572fd26775f9ea08583142998", checked := Try.checked }
namespace Rows
def none {H : Type} : Left H := { results := [], args := [] }

/-- 'laws.FnRights': WHATEVER THE INPUT: true; the input reads as it did. -/
def fnRightsSpec : ChangeSpec := { name := "fnRights", fn := fun _ => fun
  | [d] => { results := [.lit (.bool true)], args := [d] }
  | _ => none }
def fnRightsRow : OpenClaim := { program := "ytedmcambijcmnaa", sum := "5d3503b7334e3ca41eab9ea3f4cd5c3ea9fb3d5572fd26775f9ea08583142998", func := "loop.example/g00824/laws.FnRights", spec := "fnRights", unfollowed := true, recurses := true, apart := false }
def FnRightsSaid : Prop := fnRightsRow.holds Try.pinned (OpenSpec.ofChange fnRightsSpec)

/-- ITS FALSE NEIGHBOUR: 'it returns false'. Refute it at one input. -/
def fnRightsWrong : ChangeSpec := { name := "fnRights", fn := fun _ => fun
  | [d] => { results := [.lit (.bool false)], args := [d] }
  | _ => none }
def FnRightsWrongFalsely : Prop := fnRightsRow.holds Try.pinned (OpenSpec.ofChange fnRightsWrong)

/-- 'laws.FnExactHeldBy': WHATEVER THE INPUT: true; the input reads as it did. -/
def fnExactHeldBySpec : ChangeSpec := { name := "fnExactHeldBy", fn := fun _ => fun
  | [d1, d2] => { results := [.lit (.bool true)], args := [d1, d2] }
  | _ => none }
def fnExactHeldByRow : OpenClaim := { program := "ytedmcambijcmnaa", sum := "5d3503b7334e3ca41eab9ea3f4cd5c3ea9fb3d5572fd26775f9ea08583142998", func := "loop.example/g00824/laws.FnExactHeldBy", spec := "fnExactHeldBy", unfollowed := true, recurses := true, apart := false }
def FnExactHeldBySaid : Prop := fnExactHeldByRow.holds Try.pinned (OpenSpec.ofChange fnExactHeldBySpec)

/-- ITS FALSE NEIGHBOUR: 'it returns false'. Refute it at one input. -/
def fnExactHeldByWrong : ChangeSpec := { name := "fnExactHeldBy", fn := fun _ => fun
  | [d1, d2] => { results := [.lit (.bool false)], args := [d1, d2] }
  | _ => none }
def FnExactHeldByWrongFalsely : Prop := fnExactHeldByRow.holds Try.pinned (OpenSpec.ofChange fnExactHeldByWrong)

/-- 'laws.FnExactMadeIn': WHATEVER THE INPUT: true; the input reads as it did. -/
def fnExactMadeInSpec : ChangeSpec := { name := "fnExactMadeIn", fn := fun _ => fun
  | [d] => { results := [.lit (.bool true)], args := [d] }
  | _ => none }
def fnExactMadeInRow : OpenClaim := { program := "ytedmcambijcmnaa", sum := "5d3503b7334e3ca41eab9ea3f4cd5c3ea9fb3d5572fd26775f9ea08583142998", func := "loop.example/g00824/laws.FnExactMadeIn", spec := "fnExactMadeIn", unfollowed := true, recurses := true, apart := false }
def FnExactMadeInSaid : Prop := fnExactMadeInRow.holds Try.pinned (OpenSpec.ofChange fnExactMadeInSpec)

/-- ITS FALSE NEIGHBOUR: 'it returns false'. Refute it at one input. -/
def fnExactMadeInWrong : ChangeSpec := { name := "fnExactMadeIn", fn := fun _ => fun
  | [d] => { results := [.lit (.bool false)], args := [d] }
  | _ => none }
def FnExactMadeInWrongFalsely : Prop := fnExactMadeInRow.holds Try.pinned (OpenSpec.ofChange fnExactMadeInWrong)

/-- 'laws.FnExactSpentIn': WHATEVER THE INPUT: true; the input reads as it did. -/
def fnExactSpentInSpec : ChangeSpec := { name := "fnExactSpentIn", fn := fun _ => fun
  | [d] => { results := [.lit (.bool true)], args := [d] }
  | _ => none }
def fnExactSpentInRow : OpenClaim := { program := "ytedmcambijcmnaa", sum := "5d3503b7334e3ca41eab9ea3f4cd5c3ea9fb3d5572fd26775f9ea08583142998", func := "loop.example/g00824/laws.FnExactSpentIn", spec := "fnExactSpentIn", unfollowed := true, recurses := true, apart := false }
def FnExactSpentInSaid : Prop := fnExactSpentInRow.holds Try.pinned (OpenSpec.ofChange fnExactSpentInSpec)

/-- ITS FALSE NEIGHBOUR: 'it returns false'. Refute it at one input. -/
def fnExactSpentInWrong : ChangeSpec := { name := "fnExactSpentIn", fn := fun _ => fun
  | [d] => { results := [.lit (.bool false)], args := [d] }
  | _ => none }
def FnExactSpentInWrongFalsely : Prop := fnExactSpentInRow.holds Try.pinned (OpenSpec.ofChange fnExactSpentInWrong)

/- THE SECOND FORM. 'bulk': how many values and letters a reading holds, each counted each time it is reached (what is shared counts as often as it is met; a slice's spare places count too). A statement '..UptoSaid' is the law's where the arguments, and the package variables that the reading takes, are together of bulk at most 1048576: NARROWER than '..Said'. Prove '..Said' where nothing that the law and all that it calls make is longer than what came in: it says more and counts as full. Else prove '..UptoSaid'. A law counts once. -/
mutual
def uptoBulk {H : Type} : DataW H → Nat
  | .lit (.string bytes) => bytes.length + 1
  | .lit _ => 1
  | .nil => 1
  | .ptr d => uptoBulk d + 1
  | .slice elems spare => uptoBulkAll elems + uptoBulkAll spare + 1
  | .agg parts => uptoBulkAll parts + 1
  | .iface _ d => uptoBulk d + 1
  | .map entries => uptoBulkEntries entries + 1
  | .held _ => 1
def uptoBulkAll {H : Type} : List (DataW H) → Nat
  | [] => 0
  | d :: r => uptoBulk d + uptoBulkAll r
def uptoBulkEntries {H : Type} : List (Lit × DataW H) → Nat
  | [] => 0
  | x :: r => uptoBulkEntry x + uptoBulkEntries r
def uptoBulkEntry {H : Type} : Lit × DataW H → Nat
  | (.string bytes, d) => bytes.length + uptoBulk d + 1
  | (_, d) => uptoBulk d + 1
 end
def uptoSmall : (H : Type) → List (DataW H) → Bool := fun _ ds => decide (uptoBulkAll ds ≤ 1048576)
def OpenSpec.upto (s : _root_.Go.ChangeSpec) : _root_.Go.OpenSpec := { _root_.Go.OpenSpec.ofChange s with cond := some uptoSmall }

/-- 'laws.FnRights', WHERE WHAT IT READS IS OF BULK AT MOST 1048576: true; the input reads as it did. -/
def fnRightsUptoRow : OpenClaim := { program := "ytedmcambijcmnaa", sum := "5d3503b7334e3ca41eab9ea3f4cd5c3ea9fb3d5572fd26775f9ea08583142998", func := "loop.example/g00824/laws.FnRights", spec := "fnRights", unfollowed := true, recurses := true, apart := false, narrowed := true }
def FnRightsUptoSaid : Prop := fnRightsUptoRow.holds Try.pinned (OpenSpec.upto fnRightsSpec)

/-- 'laws.FnExactHeldBy', WHERE WHAT IT READS IS OF BULK AT MOST 1048576: true; the input reads as it did. -/
def fnExactHeldByUptoRow : OpenClaim := { program := "ytedmcambijcmnaa", sum := "5d3503b7334e3ca41eab9ea3f4cd5c3ea9fb3d5572fd26775f9ea08583142998", func := "loop.example/g00824/laws.FnExactHeldBy", spec := "fnExactHeldBy", unfollowed := true, recurses := true, apart := false, narrowed := true }
def FnExactHeldByUptoSaid : Prop := fnExactHeldByUptoRow.holds Try.pinned (OpenSpec.upto fnExactHeldBySpec)

/-- 'laws.FnExactMadeIn', WHERE WHAT IT READS IS OF BULK AT MOST 1048576: true; the input reads as it did. -/
def fnExactMadeInUptoRow : OpenClaim := { program := "ytedmcambijcmnaa", sum := "5d3503b7334e3ca41eab9ea3f4cd5c3ea9fb3d5572fd26775f9ea08583142998", func := "loop.example/g00824/laws.FnExactMadeIn", spec := "fnExactMadeIn", unfollowed := true, recurses := true, apart := false, narrowed := true }
def FnExactMadeInUptoSaid : Prop := fnExactMadeInUptoRow.holds Try.pinned (OpenSpec.upto fnExactMadeInSpec)

/-- 'laws.FnExactSpentIn', WHERE WHAT IT READS IS OF BULK AT MOST 1048576: true; the input reads as it did. -/
def fnExactSpentInUptoRow : OpenClaim := { program := "ytedmcambijcmnaa", sum := "5d3503b7334e3ca41eab9ea3f4cd5c3ea9fb3d5572fd26775f9ea08583142998", func := "loop.example/g00824/laws.FnExactSpentIn", spec := "fnExactSpentIn", unfollowed := true, recurses := true, apart := false, narrowed := true }
def FnExactSpentInUptoSaid : Prop := fnExactSpentInUptoRow.holds Try.pinned (OpenSpec.upto fnExactSpentInSpec)

end Rows
end Go.Proofs.Ytedmcambijcmnaa
