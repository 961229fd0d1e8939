/-
  No cell of these rows narrows 'for every input' (looked for: loops, veiled, ifaces, maps, wideKeys, modest, calm, conditions, laid).
  DERIVED. THE GIVEN ROWS OF THIS SEAT. 4 by the template 'for every input the law returns true; each argument reads behind the call as it read before'; 0 by the template 'total and deterministic' (their statements: YtdfcdemkmniknaaTotals.lean).
  GIVEN WITH THE SEED: the statements are not yours to turn. If you find one false, say at which input.
  Laid BY PROGRAM, IN A SANDBOX (cutbox-rows.mjs): the forced cells as the released guide's own fill.sh prints them over the translation 5bdf181cd32d0b8e… (all of the seat's roots in one cut). By AI agents, Wed Nov 11 2026. No macro, syntax, notation, axiom, sorry.
-/
import Derived.Test.YtdfcdemkmniknaaChecked
import GoSem.Claim
import GoSem.ClaimJoined
import GoSem.ClaimMapViews
import Derived.JoinedTies
import Derived.KernelRfl
namespace Go.Proofs.Ytdfcdemkmniknaa
/- THE CELL 'sum', in the pinned program and in every row, IS THE sha256 OF THE DUMP (.gsa) THAT YtdfcdemkmniknaaProg.lean LOADS. Nothing in Lean hashes anything: it is a label: what it is worth is what the hold of that sum in a sandbox is worth. -/
noncomputable def Try.pinned : Pinned := { name := "ytdfcdemkmniknaa", sum := "5bdf181cd32d0b8ee996f99ccee12222568ac179fbe06b56b0d16a378ce4a012", checked := Try.checked }
namespace Rows
def none {H : Type} : Left H := { results := [], args := [] }

/-- 'laws.FnSums': WHATEVER THE INPUT: true; the input reads as it did. -/
def fnSumsSpec : ChangeSpec := { name := "fnSums", fn := fun _ => fun
  | [d] => { results := [.lit (.bool true)], args := [d] }
  | _ => none }
def fnSumsRow : OpenClaim := { program := "ytdfcdemkmniknaa", sum := "5bdf181cd32d0b8ee996f99ccee12222568ac179fbe06b56b0d16a378ce4a012", func := "loop.example/g00824/laws.FnSums", spec := "fnSums", apart := false }
def FnSumsSaid : Prop := fnSumsRow.holds Try.pinned (OpenSpec.ofChange fnSumsSpec)

/-- ITS FALSE NEIGHBOUR: 'it returns false'. Refute it at one input. -/
def fnSumsWrong : ChangeSpec := { name := "fnSums", fn := fun _ => fun
  | [d] => { results := [.lit (.bool false)], args := [d] }
  | _ => none }
def FnSumsWrongFalsely : Prop := fnSumsRow.holds Try.pinned (OpenSpec.ofChange fnSumsWrong)

/-- 'laws.FnExactSumOf': WHATEVER THE INPUT: true; the input reads as it did. -/
def fnExactSumOfSpec : ChangeSpec := { name := "fnExactSumOf", fn := fun _ => fun
  | [d] => { results := [.lit (.bool true)], args := [d] }
  | _ => none }
def fnExactSumOfRow : OpenClaim := { program := "ytdfcdemkmniknaa", sum := "5bdf181cd32d0b8ee996f99ccee12222568ac179fbe06b56b0d16a378ce4a012", func := "loop.example/g00824/laws.FnExactSumOf", spec := "fnExactSumOf", apart := false }
def FnExactSumOfSaid : Prop := fnExactSumOfRow.holds Try.pinned (OpenSpec.ofChange fnExactSumOfSpec)

/-- ITS FALSE NEIGHBOUR: 'it returns false'. Refute it at one input. -/
def fnExactSumOfWrong : ChangeSpec := { name := "fnExactSumOf", fn := fun _ => fun
  | [d] => { results := [.lit (.bool false)], args := [d] }
  | _ => none }
def FnExactSumOfWrongFalsely : Prop := fnExactSumOfRow.holds Try.pinned (OpenSpec.ofChange fnExactSumOfWrong)

/-- 'laws.FnExactWithSum': WHATEVER THE INPUT: true; the input reads as it did. -/
def fnExactWithSumSpec : ChangeSpec := { name := "fnExactWithSum", fn := fun _ => fun
  | [d] => { results := [.lit (.bool true)], args := [d] }
  | _ => none }
def fnExactWithSumRow : OpenClaim := { program := "ytdfcdemkmniknaa", sum := "5bdf181cd32d0b8ee996f99ccee12222568ac179fbe06b56b0d16a378ce4a012", func := "loop.example/g00824/laws.FnExactWithSum", spec := "fnExactWithSum", apart := false }
def FnExactWithSumSaid : Prop := fnExactWithSumRow.holds Try.pinned (OpenSpec.ofChange fnExactWithSumSpec)

/-- ITS FALSE NEIGHBOUR: 'it returns false'. Refute it at one input. -/
def fnExactWithSumWrong : ChangeSpec := { name := "fnExactWithSum", fn := fun _ => fun
  | [d] => { results := [.lit (.bool false)], args := [d] }
  | _ => none }
def FnExactWithSumWrongFalsely : Prop := fnExactWithSumRow.holds Try.pinned (OpenSpec.ofChange fnExactWithSumWrong)

/-- 'laws.FnExactUnsummed': WHATEVER THE INPUT: true; the input reads as it did. -/
def fnExactUnsummedSpec : ChangeSpec := { name := "fnExactUnsummed", fn := fun _ => fun
  | [d] => { results := [.lit (.bool true)], args := [d] }
  | _ => none }
def fnExactUnsummedRow : OpenClaim := { program := "ytdfcdemkmniknaa", sum := "5bdf181cd32d0b8ee996f99ccee12222568ac179fbe06b56b0d16a378ce4a012", func := "loop.example/g00824/laws.FnExactUnsummed", spec := "fnExactUnsummed", apart := false }
def FnExactUnsummedSaid : Prop := fnExactUnsummedRow.holds Try.pinned (OpenSpec.ofChange fnExactUnsummedSpec)

/-- ITS FALSE NEIGHBOUR: 'it returns false'. Refute it at one input. -/
def fnExactUnsummedWrong : ChangeSpec := { name := "fnExactUnsummed", fn := fun _ => fun
  | [d] => { results := [.lit (.bool false)], args := [d] }
  | _ => none }
def FnExactUnsummedWrongFalsely : Prop := fnExactUnsummedRow.holds Try.pinned (OpenSpec.ofChange fnExactUnsummedWrong)

/- THE SECOND FORM. 'bulk': how many values and letters a reading holds, each counted each time it is reached (what is shared counts as often as it is met; a slice's spare places count too). A statement '..UptoSaid' is the law's where the arguments, and the package variables that the reading takes, are together of bulk at most 1048576: NARROWER than '..Said'. Prove '..Said' where nothing that the law and all that it calls make is longer than what came in: it says more and counts as full. Else prove '..UptoSaid'. A law counts once. -/
mutual
def uptoBulk {H : Type} : DataW H → Nat
  | .lit (.string bytes) => bytes.length + 1
  | .lit _ => 1
  | .nil => 1
  | .ptr d => uptoBulk d + 1
  | .slice elems spare => uptoBulkAll elems + uptoBulkAll spare + 1
  | .agg parts => uptoBulkAll parts + 1
  | .iface _ d => uptoBulk d + 1
  | .map entries => uptoBulkEntries entries + 1
  | .held _ => 1
def uptoBulkAll {H : Type} : List (DataW H) → Nat
  | [] => 0
  | d :: r => uptoBulk d + uptoBulkAll r
def uptoBulkEntries {H : Type} : List (Lit × DataW H) → Nat
  | [] => 0
  | x :: r => uptoBulkEntry x + uptoBulkEntries r
def uptoBulkEntry {H : Type} : Lit × DataW H → Nat
  | (.string bytes, d) => bytes.length + uptoBulk d + 1
  | (_, d) => uptoBulk d + 1
 end
def uptoSmall : (H : Type) → List (DataW H) → Bool := fun _ ds => decide (uptoBulkAll ds ≤ 1048576)
def OpenSpec.upto (s : _root_.Go.ChangeSpec) : _root_.Go.OpenSpec := { _root_.Go.OpenSpec.ofChange s with cond := some uptoSmall }

/-- 'laws.FnSums', WHERE WHAT IT READS IS OF BULK AT MOST 1048576: true; the input reads as it did. -/
def fnSumsUptoRow : OpenClaim := { program := "ytdfcdemkmniknaa", sum := "5bdf181cd32d0b8ee996f99ccee12222568ac179fbe06b56b0d16a378ce4a012", func := "loop.example/g00824/laws.FnSums", spec := "fnSums", apart := false, narrowed := true }
def FnSumsUptoSaid : Prop := fnSumsUptoRow.holds Try.pinned (OpenSpec.upto fnSumsSpec)

/-- 'laws.FnExactSumOf', WHERE WHAT IT READS IS OF BULK AT MOST 1048576: true; the input reads as it did. -/
def fnExactSumOfUptoRow : OpenClaim := { program := "ytdfcdemkmniknaa", sum := "5bdf181cd32d0b8ee996f99ccee12222568ac179fbe06b56b0d16a378ce4a012", func := "loop.example/g00824/laws.FnExactSumOf", spec := "fnExactSumOf", apart := false, narrowed := true }
def FnExactSumOfUptoSaid : Prop := fnExactSumOfUptoRow.holds Try.pinned (OpenSpec.upto fnExactSumOfSpec)

/-- 'laws.FnExactWithSum', WHERE WHAT IT READS IS OF BULK AT MOST 1048576: true; the input reads as it did. -/
def fnExactWithSumUptoRow : OpenClaim := { program := "ytdfcdemkmniknaa", sum := "5bdf181cd32d0b8ee996f99ccee12222568ac179fbe06b56b0d16a378ce4a012", func := "loop.example/g00824/laws.FnExactWithSum", spec := "fnExactWithSum", apart := false, narrowed := true }
def FnExactWithSumUptoSaid : Prop := fnExactWithSumUptoRow.holds Try.pinned (OpenSpec.upto fnExactWithSumSpec)

/-- 'laws.FnExactUnsummed', WHERE WHAT IT READS IS OF BULK AT MOST 1048576: true; the input reads as it did. -/
def fnExactUnsummedUptoRow : OpenClaim := { program := "ytdfcdemkmniknaa", sum := "5bdf181cd32d0b8ee996f99ccee12222568ac179fbe06b56b0d16a378ce4a012", func := "loop.example/g00824/laws.FnExactUnsummed", spec := "fnExactUnsummed", apart := false, narrowed := true }
def FnExactUnsummedUptoSaid : Prop := fnExactUnsummedUptoRow.holds Try.pinned (OpenSpec.upto fnExactUnsummedSpec)

end Rows
end Go.Proofs.Ytdfcdemkmniknaa
