/-
  NARROWER THAN 'FOR EVERY INPUT', by the rows' own cells (each row's printed sentence says how): HomChecks: laid · HomTheorem: laid · HomOrders: laid · HomComposes: laid · QuotMakes: laid · QuotParts: laid · QuotSimple: laid · QuotAbel: laid.
  DERIVED. THE GIVEN ROWS OF THIS SEAT. 8 by the template 'for every input the law returns true; each argument reads behind the call as it read before'; 0 by the template 'total and deterministic' (their statements: YtodabkjadejekaaDoorTotals.lean).
  GIVEN WITH THE SEED: the statements are not yours to turn. If you find one false, say at which input.
  Laid BY PROGRAM, IN A SANDBOX (cutbox-rows.mjs): the forced cells as the released guide's own fill.sh prints them over the translation 8e4789363e5aa54d… (all of the seat's roots in one cut). By AI agents, Wed Nov 11 2026. No macro, syntax, notation, axiom, sorry.
-/
import Derived.Test.YtodabkjadejekaaDoorChecked
import GoSem.Claim
import GoSem.ClaimJoined
import GoSem.ClaimMapViews
import Derived.JoinedTies
import Derived.KernelRfl
namespace Go.Proofs.YtodabkjadejekaaDoor
/- THE CELL 'sum', in the pinned program and in every row, IS THE sha256 OF THE DUMP (.gsa) THAT YtodabkjadejekaaDoorProg.lean LOADS. Nothing in Lean hashes anything: it is a label: what it is worth is what the hold of that sum in a sandbox is worth. -/
noncomputable def Tryd.pinned : Pinned := { name := "ytodabkjadejekaadoor", sum := "8e4789363e5aa54df8125127819ea48078b9c43c2bc203a573d2c940964c9683", checked := Tryd.checked }
namespace Rows
def none {H : Type} : Left H := { results := [], args := [] }

/- WHAT THE LISTED PACKAGE-LEVEL VARIABLES READ AS WHEN THE CALL BEGINS. Each datum BY PROGRAM (the guide's laid-datum.mjs) off the statement by which the dump's own 'gosem.cut.vars' lays the variable. In a bare row this is a premise. The card (YtodabkjadejekaaDoorCards.lean) ties it to the program's text. -/
def laid_math_bits_deBruijn64tab {H : Type} : DataW H := .agg [.lit (.int .u8 0), .lit (.int .u8 1), .lit (.int .u8 56), .lit (.int .u8 2), .lit (.int .u8 57), .lit (.int .u8 49), .lit (.int .u8 28), .lit (.int .u8 3), .lit (.int .u8 61), .lit (.int .u8 58), .lit (.int .u8 42), .lit (.int .u8 50), .lit (.int .u8 38), .lit (.int .u8 29), .lit (.int .u8 17), .lit (.int .u8 4), .lit (.int .u8 62), .lit (.int .u8 47), .lit (.int .u8 59), .lit (.int .u8 36), .lit (.int .u8 45), .lit (.int .u8 43), .lit (.int .u8 51), .lit (.int .u8 22), .lit (.int .u8 53), .lit (.int .u8 39), .lit (.int .u8 33), .lit (.int .u8 30), .lit (.int .u8 24), .lit (.int .u8 18), .lit (.int .u8 12), .lit (.int .u8 5), .lit (.int .u8 63), .lit (.int .u8 55), .lit (.int .u8 48), .lit (.int .u8 27), .lit (.int .u8 60), .lit (.int .u8 41), .lit (.int .u8 37), .lit (.int .u8 16), .lit (.int .u8 46), .lit (.int .u8 35), .lit (.int .u8 44), .lit (.int .u8 21), .lit (.int .u8 52), .lit (.int .u8 32), .lit (.int .u8 23), .lit (.int .u8 11), .lit (.int .u8 54), .lit (.int .u8 26), .lit (.int .u8 40), .lit (.int .u8 15), .lit (.int .u8 34), .lit (.int .u8 20), .lit (.int .u8 31), .lit (.int .u8 10), .lit (.int .u8 25), .lit (.int .u8 14), .lit (.int .u8 19), .lit (.int .u8 9), .lit (.int .u8 13), .lit (.int .u8 8), .lit (.int .u8 7), .lit (.int .u8 6)]

/-- 'cayleylaw.HomChecks': WHATEVER THE INPUT: true; the input reads as it did. -/
def homChecksSpec : ChangeSpec := { name := "homChecks", fn := fun _ => fun
  | [d1, d2, d3] => { results := [.lit (.bool true)], args := [d1, d2, d3] }
  | _ => none }
def homChecksRow : OpenClaim := { program := "ytodabkjadejekaadoor", sum := "8e4789363e5aa54df8125127819ea48078b9c43c2bc203a573d2c940964c9683", func := "cayley/cayleylaw.HomChecks", spec := "homChecks", unfollowed := true, recurses := true, named := ["math/bits.deBruijn64tab"], apart := false, laid := [("math/bits.deBruijn64tab", laid_math_bits_deBruijn64tab)] }
def HomChecksSaid : Prop := homChecksRow.holds Tryd.pinned (OpenSpec.ofChange homChecksSpec)

/-- ITS FALSE NEIGHBOUR: 'it returns false'. Refute it at one input. -/
def homChecksWrong : ChangeSpec := { name := "homChecks", fn := fun _ => fun
  | [d1, d2, d3] => { results := [.lit (.bool false)], args := [d1, d2, d3] }
  | _ => none }
def HomChecksWrongFalsely : Prop := homChecksRow.holds Tryd.pinned (OpenSpec.ofChange homChecksWrong)

/-- 'cayleylaw.HomTheorem': WHATEVER THE INPUT: true; the input reads as it did. -/
def homTheoremSpec : ChangeSpec := { name := "homTheorem", fn := fun _ => fun
  | [d1, d2, d3] => { results := [.lit (.bool true)], args := [d1, d2, d3] }
  | _ => none }
def homTheoremRow : OpenClaim := { program := "ytodabkjadejekaadoor", sum := "8e4789363e5aa54df8125127819ea48078b9c43c2bc203a573d2c940964c9683", func := "cayley/cayleylaw.HomTheorem", spec := "homTheorem", unfollowed := true, recurses := true, named := ["math/bits.deBruijn64tab"], apart := false, laid := [("math/bits.deBruijn64tab", laid_math_bits_deBruijn64tab)] }
def HomTheoremSaid : Prop := homTheoremRow.holds Tryd.pinned (OpenSpec.ofChange homTheoremSpec)

/-- ITS FALSE NEIGHBOUR: 'it returns false'. Refute it at one input. -/
def homTheoremWrong : ChangeSpec := { name := "homTheorem", fn := fun _ => fun
  | [d1, d2, d3] => { results := [.lit (.bool false)], args := [d1, d2, d3] }
  | _ => none }
def HomTheoremWrongFalsely : Prop := homTheoremRow.holds Tryd.pinned (OpenSpec.ofChange homTheoremWrong)

/-- 'cayleylaw.HomOrders': WHATEVER THE INPUT: true; the input reads as it did. -/
def homOrdersSpec : ChangeSpec := { name := "homOrders", fn := fun _ => fun
  | [d1, d2, d3, d4] => { results := [.lit (.bool true)], args := [d1, d2, d3, d4] }
  | _ => none }
def homOrdersRow : OpenClaim := { program := "ytodabkjadejekaadoor", sum := "8e4789363e5aa54df8125127819ea48078b9c43c2bc203a573d2c940964c9683", func := "cayley/cayleylaw.HomOrders", spec := "homOrders", unfollowed := true, recurses := true, named := ["math/bits.deBruijn64tab"], apart := false, laid := [("math/bits.deBruijn64tab", laid_math_bits_deBruijn64tab)] }
def HomOrdersSaid : Prop := homOrdersRow.holds Tryd.pinned (OpenSpec.ofChange homOrdersSpec)

/-- ITS FALSE NEIGHBOUR: 'it returns false'. Refute it at one input. -/
def homOrdersWrong : ChangeSpec := { name := "homOrders", fn := fun _ => fun
  | [d1, d2, d3, d4] => { results := [.lit (.bool false)], args := [d1, d2, d3, d4] }
  | _ => none }
def HomOrdersWrongFalsely : Prop := homOrdersRow.holds Tryd.pinned (OpenSpec.ofChange homOrdersWrong)

/-- 'cayleylaw.HomComposes': WHATEVER THE INPUT: true; the input reads as it did. -/
def homComposesSpec : ChangeSpec := { name := "homComposes", fn := fun _ => fun
  | [d1, d2, d3, d4] => { results := [.lit (.bool true)], args := [d1, d2, d3, d4] }
  | _ => none }
def homComposesRow : OpenClaim := { program := "ytodabkjadejekaadoor", sum := "8e4789363e5aa54df8125127819ea48078b9c43c2bc203a573d2c940964c9683", func := "cayley/cayleylaw.HomComposes", spec := "homComposes", unfollowed := true, recurses := true, named := ["math/bits.deBruijn64tab"], apart := false, laid := [("math/bits.deBruijn64tab", laid_math_bits_deBruijn64tab)] }
def HomComposesSaid : Prop := homComposesRow.holds Tryd.pinned (OpenSpec.ofChange homComposesSpec)

/-- ITS FALSE NEIGHBOUR: 'it returns false'. Refute it at one input. -/
def homComposesWrong : ChangeSpec := { name := "homComposes", fn := fun _ => fun
  | [d1, d2, d3, d4] => { results := [.lit (.bool false)], args := [d1, d2, d3, d4] }
  | _ => none }
def HomComposesWrongFalsely : Prop := homComposesRow.holds Tryd.pinned (OpenSpec.ofChange homComposesWrong)

/-- 'cayleylaw.QuotMakes': WHATEVER THE INPUT: true; the input reads as it did. -/
def quotMakesSpec : ChangeSpec := { name := "quotMakes", fn := fun _ => fun
  | [d1, d2] => { results := [.lit (.bool true)], args := [d1, d2] }
  | _ => none }
def quotMakesRow : OpenClaim := { program := "ytodabkjadejekaadoor", sum := "8e4789363e5aa54df8125127819ea48078b9c43c2bc203a573d2c940964c9683", func := "cayley/cayleylaw.QuotMakes", spec := "quotMakes", unfollowed := true, recurses := true, named := ["math/bits.deBruijn64tab"], apart := false, laid := [("math/bits.deBruijn64tab", laid_math_bits_deBruijn64tab)] }
def QuotMakesSaid : Prop := quotMakesRow.holds Tryd.pinned (OpenSpec.ofChange quotMakesSpec)

/-- ITS FALSE NEIGHBOUR: 'it returns false'. Refute it at one input. -/
def quotMakesWrong : ChangeSpec := { name := "quotMakes", fn := fun _ => fun
  | [d1, d2] => { results := [.lit (.bool false)], args := [d1, d2] }
  | _ => none }
def QuotMakesWrongFalsely : Prop := quotMakesRow.holds Tryd.pinned (OpenSpec.ofChange quotMakesWrong)

/-- 'cayleylaw.QuotParts': WHATEVER THE INPUT: true; the input reads as it did. -/
def quotPartsSpec : ChangeSpec := { name := "quotParts", fn := fun _ => fun
  | [d1, d2] => { results := [.lit (.bool true)], args := [d1, d2] }
  | _ => none }
def quotPartsRow : OpenClaim := { program := "ytodabkjadejekaadoor", sum := "8e4789363e5aa54df8125127819ea48078b9c43c2bc203a573d2c940964c9683", func := "cayley/cayleylaw.QuotParts", spec := "quotParts", unfollowed := true, recurses := true, named := ["math/bits.deBruijn64tab"], apart := false, laid := [("math/bits.deBruijn64tab", laid_math_bits_deBruijn64tab)] }
def QuotPartsSaid : Prop := quotPartsRow.holds Tryd.pinned (OpenSpec.ofChange quotPartsSpec)

/-- ITS FALSE NEIGHBOUR: 'it returns false'. Refute it at one input. -/
def quotPartsWrong : ChangeSpec := { name := "quotParts", fn := fun _ => fun
  | [d1, d2] => { results := [.lit (.bool false)], args := [d1, d2] }
  | _ => none }
def QuotPartsWrongFalsely : Prop := quotPartsRow.holds Tryd.pinned (OpenSpec.ofChange quotPartsWrong)

/-- 'cayleylaw.QuotSimple': WHATEVER THE INPUT: true; the input reads as it did. -/
def quotSimpleSpec : ChangeSpec := { name := "quotSimple", fn := fun _ => fun
  | [d] => { results := [.lit (.bool true)], args := [d] }
  | _ => none }
def quotSimpleRow : OpenClaim := { program := "ytodabkjadejekaadoor", sum := "8e4789363e5aa54df8125127819ea48078b9c43c2bc203a573d2c940964c9683", func := "cayley/cayleylaw.QuotSimple", spec := "quotSimple", unfollowed := true, recurses := true, named := ["math/bits.deBruijn64tab"], apart := false, laid := [("math/bits.deBruijn64tab", laid_math_bits_deBruijn64tab)] }
def QuotSimpleSaid : Prop := quotSimpleRow.holds Tryd.pinned (OpenSpec.ofChange quotSimpleSpec)

/-- ITS FALSE NEIGHBOUR: 'it returns false'. Refute it at one input. -/
def quotSimpleWrong : ChangeSpec := { name := "quotSimple", fn := fun _ => fun
  | [d] => { results := [.lit (.bool false)], args := [d] }
  | _ => none }
def QuotSimpleWrongFalsely : Prop := quotSimpleRow.holds Tryd.pinned (OpenSpec.ofChange quotSimpleWrong)

/-- 'cayleylaw.QuotAbel': WHATEVER THE INPUT: true; the input reads as it did. -/
def quotAbelSpec : ChangeSpec := { name := "quotAbel", fn := fun _ => fun
  | [d1, d2, d3] => { results := [.lit (.bool true)], args := [d1, d2, d3] }
  | _ => none }
def quotAbelRow : OpenClaim := { program := "ytodabkjadejekaadoor", sum := "8e4789363e5aa54df8125127819ea48078b9c43c2bc203a573d2c940964c9683", func := "cayley/cayleylaw.QuotAbel", spec := "quotAbel", unfollowed := true, recurses := true, named := ["math/bits.deBruijn64tab"], apart := false, laid := [("math/bits.deBruijn64tab", laid_math_bits_deBruijn64tab)] }
def QuotAbelSaid : Prop := quotAbelRow.holds Tryd.pinned (OpenSpec.ofChange quotAbelSpec)

/-- ITS FALSE NEIGHBOUR: 'it returns false'. Refute it at one input. -/
def quotAbelWrong : ChangeSpec := { name := "quotAbel", fn := fun _ => fun
  | [d1, d2, d3] => { results := [.lit (.bool false)], args := [d1, d2, d3] }
  | _ => none }
def QuotAbelWrongFalsely : Prop := quotAbelRow.holds Tryd.pinned (OpenSpec.ofChange quotAbelWrong)

/- THE SECOND FORM. 'bulk': how many values and letters a reading holds, each counted each time it is reached (what is shared counts as often as it is met; a slice's spare places count too). A statement '..UptoSaid' is the law's where the arguments, and the package variables that the reading takes, are together of bulk at most 1048576: NARROWER than '..Said'. Prove '..Said' where nothing that the law and all that it calls make is longer than what came in: it says more and counts as full. Else prove '..UptoSaid'. A law counts once. -/
mutual
def uptoBulk {H : Type} : DataW H → Nat
  | .lit (.string bytes) => bytes.length + 1
  | .lit _ => 1
  | .nil => 1
  | .ptr d => uptoBulk d + 1
  | .slice elems spare => uptoBulkAll elems + uptoBulkAll spare + 1
  | .agg parts => uptoBulkAll parts + 1
  | .iface _ d => uptoBulk d + 1
  | .map entries => uptoBulkEntries entries + 1
  | .held _ => 1
def uptoBulkAll {H : Type} : List (DataW H) → Nat
  | [] => 0
  | d :: r => uptoBulk d + uptoBulkAll r
def uptoBulkEntries {H : Type} : List (Lit × DataW H) → Nat
  | [] => 0
  | x :: r => uptoBulkEntry x + uptoBulkEntries r
def uptoBulkEntry {H : Type} : Lit × DataW H → Nat
  | (.string bytes, d) => bytes.length + uptoBulk d + 1
  | (_, d) => uptoBulk d + 1
 end
def uptoSmall : (H : Type) → List (DataW H) → Bool := fun _ ds => decide (uptoBulkAll ds ≤ 1048576)
def OpenSpec.upto (s : _root_.Go.ChangeSpec) : _root_.Go.OpenSpec := { _root_.Go.OpenSpec.ofChange s with cond := some uptoSmall }

/-- 'cayleylaw.HomChecks', WHERE WHAT IT READS IS OF BULK AT MOST 1048576: true; the input reads as it did. -/
def homChecksUptoRow : OpenClaim := { program := "ytodabkjadejekaadoor", sum := "8e4789363e5aa54df8125127819ea48078b9c43c2bc203a573d2c940964c9683", func := "cayley/cayleylaw.HomChecks", spec := "homChecks", unfollowed := true, recurses := true, named := ["math/bits.deBruijn64tab"], apart := false, laid := [("math/bits.deBruijn64tab", laid_math_bits_deBruijn64tab)], narrowed := true }
def HomChecksUptoSaid : Prop := homChecksUptoRow.holds Tryd.pinned (OpenSpec.upto homChecksSpec)

/-- 'cayleylaw.HomTheorem', WHERE WHAT IT READS IS OF BULK AT MOST 1048576: true; the input reads as it did. -/
def homTheoremUptoRow : OpenClaim := { program := "ytodabkjadejekaadoor", sum := "8e4789363e5aa54df8125127819ea48078b9c43c2bc203a573d2c940964c9683", func := "cayley/cayleylaw.HomTheorem", spec := "homTheorem", unfollowed := true, recurses := true, named := ["math/bits.deBruijn64tab"], apart := false, laid := [("math/bits.deBruijn64tab", laid_math_bits_deBruijn64tab)], narrowed := true }
def HomTheoremUptoSaid : Prop := homTheoremUptoRow.holds Tryd.pinned (OpenSpec.upto homTheoremSpec)

/-- 'cayleylaw.HomOrders', WHERE WHAT IT READS IS OF BULK AT MOST 1048576: true; the input reads as it did. -/
def homOrdersUptoRow : OpenClaim := { program := "ytodabkjadejekaadoor", sum := "8e4789363e5aa54df8125127819ea48078b9c43c2bc203a573d2c940964c9683", func := "cayley/cayleylaw.HomOrders", spec := "homOrders", unfollowed := true, recurses := true, named := ["math/bits.deBruijn64tab"], apart := false, laid := [("math/bits.deBruijn64tab", laid_math_bits_deBruijn64tab)], narrowed := true }
def HomOrdersUptoSaid : Prop := homOrdersUptoRow.holds Tryd.pinned (OpenSpec.upto homOrdersSpec)

/-- 'cayleylaw.HomComposes', WHERE WHAT IT READS IS OF BULK AT MOST 1048576: true; the input reads as it did. -/
def homComposesUptoRow : OpenClaim := { program := "ytodabkjadejekaadoor", sum := "8e4789363e5aa54df8125127819ea48078b9c43c2bc203a573d2c940964c9683", func := "cayley/cayleylaw.HomComposes", spec := "homComposes", unfollowed := true, recurses := true, named := ["math/bits.deBruijn64tab"], apart := false, laid := [("math/bits.deBruijn64tab", laid_math_bits_deBruijn64tab)], narrowed := true }
def HomComposesUptoSaid : Prop := homComposesUptoRow.holds Tryd.pinned (OpenSpec.upto homComposesSpec)

/-- 'cayleylaw.QuotMakes', WHERE WHAT IT READS IS OF BULK AT MOST 1048576: true; the input reads as it did. -/
def quotMakesUptoRow : OpenClaim := { program := "ytodabkjadejekaadoor", sum := "8e4789363e5aa54df8125127819ea48078b9c43c2bc203a573d2c940964c9683", func := "cayley/cayleylaw.QuotMakes", spec := "quotMakes", unfollowed := true, recurses := true, named := ["math/bits.deBruijn64tab"], apart := false, laid := [("math/bits.deBruijn64tab", laid_math_bits_deBruijn64tab)], narrowed := true }
def QuotMakesUptoSaid : Prop := quotMakesUptoRow.holds Tryd.pinned (OpenSpec.upto quotMakesSpec)

/-- 'cayleylaw.QuotParts', WHERE WHAT IT READS IS OF BULK AT MOST 1048576: true; the input reads as it did. -/
def quotPartsUptoRow : OpenClaim := { program := "ytodabkjadejekaadoor", sum := "8e4789363e5aa54df8125127819ea48078b9c43c2bc203a573d2c940964c9683", func := "cayley/cayleylaw.QuotParts", spec := "quotParts", unfollowed := true, recurses := true, named := ["math/bits.deBruijn64tab"], apart := false, laid := [("math/bits.deBruijn64tab", laid_math_bits_deBruijn64tab)], narrowed := true }
def QuotPartsUptoSaid : Prop := quotPartsUptoRow.holds Tryd.pinned (OpenSpec.upto quotPartsSpec)

/-- 'cayleylaw.QuotSimple', WHERE WHAT IT READS IS OF BULK AT MOST 1048576: true; the input reads as it did. -/
def quotSimpleUptoRow : OpenClaim := { program := "ytodabkjadejekaadoor", sum := "8e4789363e5aa54df8125127819ea48078b9c43c2bc203a573d2c940964c9683", func := "cayley/cayleylaw.QuotSimple", spec := "quotSimple", unfollowed := true, recurses := true, named := ["math/bits.deBruijn64tab"], apart := false, laid := [("math/bits.deBruijn64tab", laid_math_bits_deBruijn64tab)], narrowed := true }
def QuotSimpleUptoSaid : Prop := quotSimpleUptoRow.holds Tryd.pinned (OpenSpec.upto quotSimpleSpec)

/-- 'cayleylaw.QuotAbel', WHERE WHAT IT READS IS OF BULK AT MOST 1048576: true; the input reads as it did. -/
def quotAbelUptoRow : OpenClaim := { program := "ytodabkjadejekaadoor", sum := "8e4789363e5aa54df8125127819ea48078b9c43c2bc203a573d2c940964c9683", func := "cayley/cayleylaw.QuotAbel", spec := "quotAbel", unfollowed := true, recurses := true, named := ["math/bits.deBruijn64tab"], apart := false, laid := [("math/bits.deBruijn64tab", laid_math_bits_deBruijn64tab)], narrowed := true }
def QuotAbelUptoSaid : Prop := quotAbelUptoRow.holds Tryd.pinned (OpenSpec.upto quotAbelSpec)

end Rows
end Go.Proofs.YtodabkjadejekaaDoor
