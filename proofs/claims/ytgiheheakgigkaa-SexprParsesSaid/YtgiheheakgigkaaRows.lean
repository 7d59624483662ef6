/-
  NARROWER THAN 'FOR EVERY INPUT', by the rows' own cells (each row's printed sentence says how): SexprPrints: loops · SexprForms: loops · SexprBack: loops · SexprGaps: loops.
  DERIVED. THE GIVEN ROWS OF THIS SEAT. 7 by the template 'for every input the law returns true; each argument reads behind the call as it read before'; 0 by the template 'total and deterministic' (their statements: YtgiheheakgigkaaTotals.lean).
  GIVEN WITH THE SEED: the statements are not yours to turn. If you find one false, say at which input.
  Laid BY PROGRAM, IN A SANDBOX (cutbox-rows.mjs): the forced cells as the released guide's own fill.sh prints them over the translation b3179e9b352d33b9… (all of the seat's roots in one cut). By AI agents, Wed Nov 11 2026. No macro, syntax, notation, axiom, sorry.
-/
import Derived.Test.YtgiheheakgigkaaChecked
import GoSem.Claim
import GoSem.ClaimJoined
import GoSem.ClaimMapViews
import Derived.JoinedTies
import Derived.KernelRfl
namespace Go.Proofs.Ytgiheheakgigkaa
/- THE CELL 'sum', in the pinned program and in every row, IS THE sha256 OF THE DUMP (.gsa) THAT YtgiheheakgigkaaProg.lean LOADS. Nothing in Lean hashes anything: it is a label: what it is worth is what the hold of that sum in a sandbox is worth. -/
noncomputable def Try.pinned : Pinned := { name := "ytgiheheakgigkaa", sum := "b3179e9b352d33b96c4bd1bdc441bf19a1afbfdac012d401b3110f654a6e5095", checked := Try.checked }
namespace Rows
def none {H : Type} : Left H := { results := [], args := [] }

/-- 'saturatelaw05.SexprParses': WHATEVER THE INPUT: true; the input reads as it did. -/
def sexprParsesSpec : ChangeSpec := { name := "sexprParses", fn := fun _ => fun
  | [d] => { results := [.lit (.bool true)], args := [d] }
  | _ => none }
def sexprParsesRow : OpenClaim := { program := "ytgiheheakgigkaa", sum := "b3179e9b352d33b96c4bd1bdc441bf19a1afbfdac012d401b3110f654a6e5095", func := "saturate/saturatelaw05.SexprParses", spec := "sexprParses", inPlace := ["internal/abi.NoEscape"], unfollowed := true, recurses := true, apart := false }
def SexprParsesSaid : Prop := sexprParsesRow.holds Try.pinned (OpenSpec.ofChange sexprParsesSpec)

/-- ITS FALSE NEIGHBOUR: 'it returns false'. Refute it at one input. -/
def sexprParsesWrong : ChangeSpec := { name := "sexprParses", fn := fun _ => fun
  | [d] => { results := [.lit (.bool false)], args := [d] }
  | _ => none }
def SexprParsesWrongFalsely : Prop := sexprParsesRow.holds Try.pinned (OpenSpec.ofChange sexprParsesWrong)

/-- 'saturatelaw05.SexprPrints': WHATEVER THE INPUT: true; the input reads as it did. -/
def sexprPrintsSpec : ChangeSpec := { name := "sexprPrints", fn := fun _ => fun
  | [d] => { results := [.lit (.bool true)], args := [d] }
  | _ => none }
def sexprPrintsRow : OpenClaim := { program := "ytgiheheakgigkaa", sum := "b3179e9b352d33b96c4bd1bdc441bf19a1afbfdac012d401b3110f654a6e5095", func := "saturate/saturatelaw05.SexprPrints", spec := "sexprPrints", inPlace := ["internal/abi.NoEscape"], unfollowed := true, recurses := true, loops := true, apart := false }
def SexprPrintsSaid : Prop := sexprPrintsRow.holds Try.pinned (OpenSpec.ofChange sexprPrintsSpec)

/-- ITS FALSE NEIGHBOUR: 'it returns false'. Refute it at one input. -/
def sexprPrintsWrong : ChangeSpec := { name := "sexprPrints", fn := fun _ => fun
  | [d] => { results := [.lit (.bool false)], args := [d] }
  | _ => none }
def SexprPrintsWrongFalsely : Prop := sexprPrintsRow.holds Try.pinned (OpenSpec.ofChange sexprPrintsWrong)

/-- 'saturatelaw05.SexprForms': WHATEVER THE INPUT: true; the input reads as it did. -/
def sexprFormsSpec : ChangeSpec := { name := "sexprForms", fn := fun _ => fun
  | [d1, d2] => { results := [.lit (.bool true)], args := [d1, d2] }
  | _ => none }
def sexprFormsRow : OpenClaim := { program := "ytgiheheakgigkaa", sum := "b3179e9b352d33b96c4bd1bdc441bf19a1afbfdac012d401b3110f654a6e5095", func := "saturate/saturatelaw05.SexprForms", spec := "sexprForms", inPlace := ["internal/abi.NoEscape"], unfollowed := true, recurses := true, loops := true, apart := false }
def SexprFormsSaid : Prop := sexprFormsRow.holds Try.pinned (OpenSpec.ofChange sexprFormsSpec)

/-- ITS FALSE NEIGHBOUR: 'it returns false'. Refute it at one input. -/
def sexprFormsWrong : ChangeSpec := { name := "sexprForms", fn := fun _ => fun
  | [d1, d2] => { results := [.lit (.bool false)], args := [d1, d2] }
  | _ => none }
def SexprFormsWrongFalsely : Prop := sexprFormsRow.holds Try.pinned (OpenSpec.ofChange sexprFormsWrong)

/-- 'saturatelaw05.SexprBack': WHATEVER THE INPUT: true; the input reads as it did. -/
def sexprBackSpec : ChangeSpec := { name := "sexprBack", fn := fun _ => fun
  | [d] => { results := [.lit (.bool true)], args := [d] }
  | _ => none }
def sexprBackRow : OpenClaim := { program := "ytgiheheakgigkaa", sum := "b3179e9b352d33b96c4bd1bdc441bf19a1afbfdac012d401b3110f654a6e5095", func := "saturate/saturatelaw05.SexprBack", spec := "sexprBack", inPlace := ["internal/abi.NoEscape"], unfollowed := true, recurses := true, loops := true, apart := false }
def SexprBackSaid : Prop := sexprBackRow.holds Try.pinned (OpenSpec.ofChange sexprBackSpec)

/-- ITS FALSE NEIGHBOUR: 'it returns false'. Refute it at one input. -/
def sexprBackWrong : ChangeSpec := { name := "sexprBack", fn := fun _ => fun
  | [d] => { results := [.lit (.bool false)], args := [d] }
  | _ => none }
def SexprBackWrongFalsely : Prop := sexprBackRow.holds Try.pinned (OpenSpec.ofChange sexprBackWrong)

/-- 'saturatelaw05.SexprTwice': WHATEVER THE INPUT: true; the input reads as it did. -/
def sexprTwiceSpec : ChangeSpec := { name := "sexprTwice", fn := fun _ => fun
  | [d] => { results := [.lit (.bool true)], args := [d] }
  | _ => none }
def sexprTwiceRow : OpenClaim := { program := "ytgiheheakgigkaa", sum := "b3179e9b352d33b96c4bd1bdc441bf19a1afbfdac012d401b3110f654a6e5095", func := "saturate/saturatelaw05.SexprTwice", spec := "sexprTwice", inPlace := ["internal/abi.NoEscape"], unfollowed := true, recurses := true, apart := false }
def SexprTwiceSaid : Prop := sexprTwiceRow.holds Try.pinned (OpenSpec.ofChange sexprTwiceSpec)

/-- ITS FALSE NEIGHBOUR: 'it returns false'. Refute it at one input. -/
def sexprTwiceWrong : ChangeSpec := { name := "sexprTwice", fn := fun _ => fun
  | [d] => { results := [.lit (.bool false)], args := [d] }
  | _ => none }
def SexprTwiceWrongFalsely : Prop := sexprTwiceRow.holds Try.pinned (OpenSpec.ofChange sexprTwiceWrong)

/-- 'saturatelaw05.SexprGaps': WHATEVER THE INPUT: true; the input reads as it did. -/
def sexprGapsSpec : ChangeSpec := { name := "sexprGaps", fn := fun _ => fun
  | [d1, d2] => { results := [.lit (.bool true)], args := [d1, d2] }
  | _ => none }
def sexprGapsRow : OpenClaim := { program := "ytgiheheakgigkaa", sum := "b3179e9b352d33b96c4bd1bdc441bf19a1afbfdac012d401b3110f654a6e5095", func := "saturate/saturatelaw05.SexprGaps", spec := "sexprGaps", inPlace := ["internal/abi.NoEscape"], unfollowed := true, recurses := true, loops := true, apart := false }
def SexprGapsSaid : Prop := sexprGapsRow.holds Try.pinned (OpenSpec.ofChange sexprGapsSpec)

/-- ITS FALSE NEIGHBOUR: 'it returns false'. Refute it at one input. -/
def sexprGapsWrong : ChangeSpec := { name := "sexprGaps", fn := fun _ => fun
  | [d1, d2] => { results := [.lit (.bool false)], args := [d1, d2] }
  | _ => none }
def SexprGapsWrongFalsely : Prop := sexprGapsRow.holds Try.pinned (OpenSpec.ofChange sexprGapsWrong)

/-- 'saturatelaw05.SexprLong': WHATEVER THE INPUT: true; the input reads as it did. -/
def sexprLongSpec : ChangeSpec := { name := "sexprLong", fn := fun _ => fun
  | [d] => { results := [.lit (.bool true)], args := [d] }
  | _ => none }
def sexprLongRow : OpenClaim := { program := "ytgiheheakgigkaa", sum := "b3179e9b352d33b96c4bd1bdc441bf19a1afbfdac012d401b3110f654a6e5095", func := "saturate/saturatelaw05.SexprLong", spec := "sexprLong", inPlace := ["internal/abi.NoEscape"], unfollowed := true, recurses := true, apart := false }
def SexprLongSaid : Prop := sexprLongRow.holds Try.pinned (OpenSpec.ofChange sexprLongSpec)

/-- ITS FALSE NEIGHBOUR: 'it returns false'. Refute it at one input. -/
def sexprLongWrong : ChangeSpec := { name := "sexprLong", fn := fun _ => fun
  | [d] => { results := [.lit (.bool false)], args := [d] }
  | _ => none }
def SexprLongWrongFalsely : Prop := sexprLongRow.holds Try.pinned (OpenSpec.ofChange sexprLongWrong)

/- THE SECOND FORM. 'bulk': how many values and letters a reading holds, each counted each time it is reached (what is shared counts as often as it is met; a slice's spare places count too). A statement '..UptoSaid' is the law's where the arguments, and the package variables that the reading takes, are together of bulk at most 1048576: NARROWER than '..Said'. Prove '..Said' where nothing that the law and all that it calls make is longer than what came in: it says more and counts as full. Else prove '..UptoSaid'. A law counts once. -/
mutual
def uptoBulk {H : Type} : DataW H → Nat
  | .lit (.string bytes) => bytes.length + 1
  | .lit _ => 1
  | .nil => 1
  | .ptr d => uptoBulk d + 1
  | .slice elems spare => uptoBulkAll elems + uptoBulkAll spare + 1
  | .agg parts => uptoBulkAll parts + 1
  | .iface _ d => uptoBulk d + 1
  | .map entries => uptoBulkEntries entries + 1
  | .held _ => 1
def uptoBulkAll {H : Type} : List (DataW H) → Nat
  | [] => 0
  | d :: r => uptoBulk d + uptoBulkAll r
def uptoBulkEntries {H : Type} : List (Lit × DataW H) → Nat
  | [] => 0
  | x :: r => uptoBulkEntry x + uptoBulkEntries r
def uptoBulkEntry {H : Type} : Lit × DataW H → Nat
  | (.string bytes, d) => bytes.length + uptoBulk d + 1
  | (_, d) => uptoBulk d + 1
 end
def uptoSmall : (H : Type) → List (DataW H) → Bool := fun _ ds => decide (uptoBulkAll ds ≤ 1048576)
def OpenSpec.upto (s : _root_.Go.ChangeSpec) : _root_.Go.OpenSpec := { _root_.Go.OpenSpec.ofChange s with cond := some uptoSmall }

/-- 'saturatelaw05.SexprParses', WHERE WHAT IT READS IS OF BULK AT MOST 1048576: true; the input reads as it did. -/
def sexprParsesUptoRow : OpenClaim := { program := "ytgiheheakgigkaa", sum := "b3179e9b352d33b96c4bd1bdc441bf19a1afbfdac012d401b3110f654a6e5095", func := "saturate/saturatelaw05.SexprParses", spec := "sexprParses", inPlace := ["internal/abi.NoEscape"], unfollowed := true, recurses := true, apart := false, narrowed := true }
def SexprParsesUptoSaid : Prop := sexprParsesUptoRow.holds Try.pinned (OpenSpec.upto sexprParsesSpec)

/-- 'saturatelaw05.SexprPrints', WHERE WHAT IT READS IS OF BULK AT MOST 1048576: true; the input reads as it did. -/
def sexprPrintsUptoRow : OpenClaim := { program := "ytgiheheakgigkaa", sum := "b3179e9b352d33b96c4bd1bdc441bf19a1afbfdac012d401b3110f654a6e5095", func := "saturate/saturatelaw05.SexprPrints", spec := "sexprPrints", inPlace := ["internal/abi.NoEscape"], unfollowed := true, recurses := true, loops := true, apart := false, narrowed := true }
def SexprPrintsUptoSaid : Prop := sexprPrintsUptoRow.holds Try.pinned (OpenSpec.upto sexprPrintsSpec)

/-- 'saturatelaw05.SexprForms', WHERE WHAT IT READS IS OF BULK AT MOST 1048576: true; the input reads as it did. -/
def sexprFormsUptoRow : OpenClaim := { program := "ytgiheheakgigkaa", sum := "b3179e9b352d33b96c4bd1bdc441bf19a1afbfdac012d401b3110f654a6e5095", func := "saturate/saturatelaw05.SexprForms", spec := "sexprForms", inPlace := ["internal/abi.NoEscape"], unfollowed := true, recurses := true, loops := true, apart := false, narrowed := true }
def SexprFormsUptoSaid : Prop := sexprFormsUptoRow.holds Try.pinned (OpenSpec.upto sexprFormsSpec)

/-- 'saturatelaw05.SexprBack', WHERE WHAT IT READS IS OF BULK AT MOST 1048576: true; the input reads as it did. -/
def sexprBackUptoRow : OpenClaim := { program := "ytgiheheakgigkaa", sum := "b3179e9b352d33b96c4bd1bdc441bf19a1afbfdac012d401b3110f654a6e5095", func := "saturate/saturatelaw05.SexprBack", spec := "sexprBack", inPlace := ["internal/abi.NoEscape"], unfollowed := true, recurses := true, loops := true, apart := false, narrowed := true }
def SexprBackUptoSaid : Prop := sexprBackUptoRow.holds Try.pinned (OpenSpec.upto sexprBackSpec)

/-- 'saturatelaw05.SexprTwice', WHERE WHAT IT READS IS OF BULK AT MOST 1048576: true; the input reads as it did. -/
def sexprTwiceUptoRow : OpenClaim := { program := "ytgiheheakgigkaa", sum := "b3179e9b352d33b96c4bd1bdc441bf19a1afbfdac012d401b3110f654a6e5095", func := "saturate/saturatelaw05.SexprTwice", spec := "sexprTwice", inPlace := ["internal/abi.NoEscape"], unfollowed := true, recurses := true, apart := false, narrowed := true }
def SexprTwiceUptoSaid : Prop := sexprTwiceUptoRow.holds Try.pinned (OpenSpec.upto sexprTwiceSpec)

/-- 'saturatelaw05.SexprGaps', WHERE WHAT IT READS IS OF BULK AT MOST 1048576: true; the input reads as it did. -/
def sexprGapsUptoRow : OpenClaim := { program := "ytgiheheakgigkaa", sum := "b3179e9b352d33b96c4bd1bdc441bf19a1afbfdac012d401b3110f654a6e5095", func := "saturate/saturatelaw05.SexprGaps", spec := "sexprGaps", inPlace := ["internal/abi.NoEscape"], unfollowed := true, recurses := true, loops := true, apart := false, narrowed := true }
def SexprGapsUptoSaid : Prop := sexprGapsUptoRow.holds Try.pinned (OpenSpec.upto sexprGapsSpec)

/-- 'saturatelaw05.SexprLong', WHERE WHAT IT READS IS OF BULK AT MOST 1048576: true; the input reads as it did. -/
def sexprLongUptoRow : OpenClaim := { program := "ytgiheheakgigkaa", sum := "b3179e9b352d33b96c4bd1bdc441bf19a1afbfdac012d401b3110f654a6e5095", func := "saturate/saturatelaw05.SexprLong", spec := "sexprLong", inPlace := ["internal/abi.NoEscape"], unfollowed := true, recurses := true, apart := false, narrowed := true }
def SexprLongUptoSaid : Prop := sexprLongUptoRow.holds Try.pinned (OpenSpec.upto sexprLongSpec)

end Rows
end Go.Proofs.Ytgiheheakgigkaa
