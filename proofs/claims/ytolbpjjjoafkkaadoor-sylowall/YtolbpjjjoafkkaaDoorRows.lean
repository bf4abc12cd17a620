/-
  NARROWER THAN 'FOR EVERY INPUT', by the rows' own cells (each row's printed sentence says how): SylowAll: laid · SylowHolds: laid · SylowFrattini: laid · SylowQuotients: laid · SylowPowers: laid · SeriesGo: laid · SeriesComposes: laid · SeriesNilpotent: laid · SeriesNormal: laid · SeriesGrow: laid.
  DERIVED. THE GIVEN ROWS OF THIS SEAT. 10 by the template 'for every input the law returns true; each argument reads behind the call as it read before'; 0 by the template 'total and deterministic' (their statements: YtolbpjjjoafkkaaDoorTotals.lean).
  GIVEN WITH THE SEED: the statements are not yours to turn. If you find one false, say at which input.
  Laid BY PROGRAM, IN A SANDBOX (cutbox-rows.mjs): the forced cells as the released guide's own fill.sh prints them over the translation 9f9cd6cad17850be… (all of the seat's roots in one cut). By AI agents, Wed Nov 11 2026. No macro, syntax, notation, axiom, sorry.
-/
import Derived.Test.YtolbpjjjoafkkaaDoorChecked
import GoSem.Claim
import GoSem.ClaimJoined
import GoSem.ClaimMapViews
import Derived.JoinedTies
import Derived.KernelRfl
namespace Go.Proofs.YtolbpjjjoafkkaaDoor
/- THE CELL 'sum', in the pinned program and in every row, IS THE sha256 OF THE DUMP (.gsa) THAT YtolbpjjjoafkkaaDoorProg.lean LOADS. Nothing in Lean hashes anything: it is a label: what it is worth is what the hold of that sum in a sandbox is worth. -/
noncomputable def Tryd.pinned : Pinned := { name := "ytolbpjjjoafkkaadoor", sum := "9f9cd6cad17850bed8d9fa00022fd29477562dab1514c6f042373fe9d36f71f3", checked := Tryd.checked }
namespace Rows
def none {H : Type} : Left H := { results := [], args := [] }

/- WHAT THE LISTED PACKAGE-LEVEL VARIABLES READ AS WHEN THE CALL BEGINS. Each datum BY PROGRAM (the guide's laid-datum.mjs) off the statement by which the dump's own 'gosem.cut.vars' lays the variable. In a bare row this is a premise. The card (YtolbpjjjoafkkaaDoorCards.lean) ties it to the program's text. -/
def laid_math_bits_deBruijn64tab {H : Type} : DataW H := .agg [.lit (.int .u8 0), .lit (.int .u8 1), .lit (.int .u8 56), .lit (.int .u8 2), .lit (.int .u8 57), .lit (.int .u8 49), .lit (.int .u8 28), .lit (.int .u8 3), .lit (.int .u8 61), .lit (.int .u8 58), .lit (.int .u8 42), .lit (.int .u8 50), .lit (.int .u8 38), .lit (.int .u8 29), .lit (.int .u8 17), .lit (.int .u8 4), .lit (.int .u8 62), .lit (.int .u8 47), .lit (.int .u8 59), .lit (.int .u8 36), .lit (.int .u8 45), .lit (.int .u8 43), .lit (.int .u8 51), .lit (.int .u8 22), .lit (.int .u8 53), .lit (.int .u8 39), .lit (.int .u8 33), .lit (.int .u8 30), .lit (.int .u8 24), .lit (.int .u8 18), .lit (.int .u8 12), .lit (.int .u8 5), .lit (.int .u8 63), .lit (.int .u8 55), .lit (.int .u8 48), .lit (.int .u8 27), .lit (.int .u8 60), .lit (.int .u8 41), .lit (.int .u8 37), .lit (.int .u8 16), .lit (.int .u8 46), .lit (.int .u8 35), .lit (.int .u8 44), .lit (.int .u8 21), .lit (.int .u8 52), .lit (.int .u8 32), .lit (.int .u8 23), .lit (.int .u8 11), .lit (.int .u8 54), .lit (.int .u8 26), .lit (.int .u8 40), .lit (.int .u8 15), .lit (.int .u8 34), .lit (.int .u8 20), .lit (.int .u8 31), .lit (.int .u8 10), .lit (.int .u8 25), .lit (.int .u8 14), .lit (.int .u8 19), .lit (.int .u8 9), .lit (.int .u8 13), .lit (.int .u8 8), .lit (.int .u8 7), .lit (.int .u8 6)]

/-- 'cayleylaw.SylowAll': WHATEVER THE INPUT: true; the input reads as it did. -/
def sylowAllSpec : ChangeSpec := { name := "sylowAll", fn := fun _ => fun
  | [d1, d2] => { results := [.lit (.bool true)], args := [d1, d2] }
  | _ => none }
def sylowAllRow : OpenClaim := { program := "ytolbpjjjoafkkaadoor", sum := "9f9cd6cad17850bed8d9fa00022fd29477562dab1514c6f042373fe9d36f71f3", func := "cayley/cayleylaw.SylowAll", spec := "sylowAll", unfollowed := true, recurses := true, named := ["math/bits.deBruijn64tab"], apart := false, laid := [("math/bits.deBruijn64tab", laid_math_bits_deBruijn64tab)] }
def SylowAllSaid : Prop := sylowAllRow.holds Tryd.pinned (OpenSpec.ofChange sylowAllSpec)

/-- ITS FALSE NEIGHBOUR: 'it returns false'. Refute it at one input. -/
def sylowAllWrong : ChangeSpec := { name := "sylowAll", fn := fun _ => fun
  | [d1, d2] => { results := [.lit (.bool false)], args := [d1, d2] }
  | _ => none }
def SylowAllWrongFalsely : Prop := sylowAllRow.holds Tryd.pinned (OpenSpec.ofChange sylowAllWrong)

/-- 'cayleylaw.SylowHolds': WHATEVER THE INPUT: true; the input reads as it did. -/
def sylowHoldsSpec : ChangeSpec := { name := "sylowHolds", fn := fun _ => fun
  | [d1, d2, d3] => { results := [.lit (.bool true)], args := [d1, d2, d3] }
  | _ => none }
def sylowHoldsRow : OpenClaim := { program := "ytolbpjjjoafkkaadoor", sum := "9f9cd6cad17850bed8d9fa00022fd29477562dab1514c6f042373fe9d36f71f3", func := "cayley/cayleylaw.SylowHolds", spec := "sylowHolds", unfollowed := true, recurses := true, named := ["math/bits.deBruijn64tab"], apart := false, laid := [("math/bits.deBruijn64tab", laid_math_bits_deBruijn64tab)] }
def SylowHoldsSaid : Prop := sylowHoldsRow.holds Tryd.pinned (OpenSpec.ofChange sylowHoldsSpec)

/-- ITS FALSE NEIGHBOUR: 'it returns false'. Refute it at one input. -/
def sylowHoldsWrong : ChangeSpec := { name := "sylowHolds", fn := fun _ => fun
  | [d1, d2, d3] => { results := [.lit (.bool false)], args := [d1, d2, d3] }
  | _ => none }
def SylowHoldsWrongFalsely : Prop := sylowHoldsRow.holds Tryd.pinned (OpenSpec.ofChange sylowHoldsWrong)

/-- 'cayleylaw.SylowFrattini': WHATEVER THE INPUT: true; the input reads as it did. -/
def sylowFrattiniSpec : ChangeSpec := { name := "sylowFrattini", fn := fun _ => fun
  | [d1, d2, d3] => { results := [.lit (.bool true)], args := [d1, d2, d3] }
  | _ => none }
def sylowFrattiniRow : OpenClaim := { program := "ytolbpjjjoafkkaadoor", sum := "9f9cd6cad17850bed8d9fa00022fd29477562dab1514c6f042373fe9d36f71f3", func := "cayley/cayleylaw.SylowFrattini", spec := "sylowFrattini", unfollowed := true, recurses := true, named := ["math/bits.deBruijn64tab"], apart := false, laid := [("math/bits.deBruijn64tab", laid_math_bits_deBruijn64tab)] }
def SylowFrattiniSaid : Prop := sylowFrattiniRow.holds Tryd.pinned (OpenSpec.ofChange sylowFrattiniSpec)

/-- ITS FALSE NEIGHBOUR: 'it returns false'. Refute it at one input. -/
def sylowFrattiniWrong : ChangeSpec := { name := "sylowFrattini", fn := fun _ => fun
  | [d1, d2, d3] => { results := [.lit (.bool false)], args := [d1, d2, d3] }
  | _ => none }
def SylowFrattiniWrongFalsely : Prop := sylowFrattiniRow.holds Tryd.pinned (OpenSpec.ofChange sylowFrattiniWrong)

/-- 'cayleylaw.SylowQuotients': WHATEVER THE INPUT: true; the input reads as it did. -/
def sylowQuotientsSpec : ChangeSpec := { name := "sylowQuotients", fn := fun _ => fun
  | [d1, d2] => { results := [.lit (.bool true)], args := [d1, d2] }
  | _ => none }
def sylowQuotientsRow : OpenClaim := { program := "ytolbpjjjoafkkaadoor", sum := "9f9cd6cad17850bed8d9fa00022fd29477562dab1514c6f042373fe9d36f71f3", func := "cayley/cayleylaw.SylowQuotients", spec := "sylowQuotients", unfollowed := true, recurses := true, named := ["math/bits.deBruijn64tab"], apart := false, laid := [("math/bits.deBruijn64tab", laid_math_bits_deBruijn64tab)] }
def SylowQuotientsSaid : Prop := sylowQuotientsRow.holds Tryd.pinned (OpenSpec.ofChange sylowQuotientsSpec)

/-- ITS FALSE NEIGHBOUR: 'it returns false'. Refute it at one input. -/
def sylowQuotientsWrong : ChangeSpec := { name := "sylowQuotients", fn := fun _ => fun
  | [d1, d2] => { results := [.lit (.bool false)], args := [d1, d2] }
  | _ => none }
def SylowQuotientsWrongFalsely : Prop := sylowQuotientsRow.holds Tryd.pinned (OpenSpec.ofChange sylowQuotientsWrong)

/-- 'cayleylaw.SylowPowers': WHATEVER THE INPUT: true; the input reads as it did. -/
def sylowPowersSpec : ChangeSpec := { name := "sylowPowers", fn := fun _ => fun
  | [d1, d2] => { results := [.lit (.bool true)], args := [d1, d2] }
  | _ => none }
def sylowPowersRow : OpenClaim := { program := "ytolbpjjjoafkkaadoor", sum := "9f9cd6cad17850bed8d9fa00022fd29477562dab1514c6f042373fe9d36f71f3", func := "cayley/cayleylaw.SylowPowers", spec := "sylowPowers", unfollowed := true, recurses := true, named := ["math/bits.deBruijn64tab"], apart := false, laid := [("math/bits.deBruijn64tab", laid_math_bits_deBruijn64tab)] }
def SylowPowersSaid : Prop := sylowPowersRow.holds Tryd.pinned (OpenSpec.ofChange sylowPowersSpec)

/-- ITS FALSE NEIGHBOUR: 'it returns false'. Refute it at one input. -/
def sylowPowersWrong : ChangeSpec := { name := "sylowPowers", fn := fun _ => fun
  | [d1, d2] => { results := [.lit (.bool false)], args := [d1, d2] }
  | _ => none }
def SylowPowersWrongFalsely : Prop := sylowPowersRow.holds Tryd.pinned (OpenSpec.ofChange sylowPowersWrong)

/-- 'cayleylaw.SeriesGo': WHATEVER THE INPUT: true; the input reads as it did. -/
def seriesGoSpec : ChangeSpec := { name := "seriesGo", fn := fun _ => fun
  | [d] => { results := [.lit (.bool true)], args := [d] }
  | _ => none }
def seriesGoRow : OpenClaim := { program := "ytolbpjjjoafkkaadoor", sum := "9f9cd6cad17850bed8d9fa00022fd29477562dab1514c6f042373fe9d36f71f3", func := "cayley/cayleylaw.SeriesGo", spec := "seriesGo", unfollowed := true, recurses := true, named := ["math/bits.deBruijn64tab"], apart := false, laid := [("math/bits.deBruijn64tab", laid_math_bits_deBruijn64tab)] }
def SeriesGoSaid : Prop := seriesGoRow.holds Tryd.pinned (OpenSpec.ofChange seriesGoSpec)

/-- ITS FALSE NEIGHBOUR: 'it returns false'. Refute it at one input. -/
def seriesGoWrong : ChangeSpec := { name := "seriesGo", fn := fun _ => fun
  | [d] => { results := [.lit (.bool false)], args := [d] }
  | _ => none }
def SeriesGoWrongFalsely : Prop := seriesGoRow.holds Tryd.pinned (OpenSpec.ofChange seriesGoWrong)

/-- 'cayleylaw.SeriesComposes': WHATEVER THE INPUT: true; the input reads as it did. -/
def seriesComposesSpec : ChangeSpec := { name := "seriesComposes", fn := fun _ => fun
  | [d] => { results := [.lit (.bool true)], args := [d] }
  | _ => none }
def seriesComposesRow : OpenClaim := { program := "ytolbpjjjoafkkaadoor", sum := "9f9cd6cad17850bed8d9fa00022fd29477562dab1514c6f042373fe9d36f71f3", func := "cayley/cayleylaw.SeriesComposes", spec := "seriesComposes", unfollowed := true, recurses := true, named := ["math/bits.deBruijn64tab"], apart := false, laid := [("math/bits.deBruijn64tab", laid_math_bits_deBruijn64tab)] }
def SeriesComposesSaid : Prop := seriesComposesRow.holds Tryd.pinned (OpenSpec.ofChange seriesComposesSpec)

/-- ITS FALSE NEIGHBOUR: 'it returns false'. Refute it at one input. -/
def seriesComposesWrong : ChangeSpec := { name := "seriesComposes", fn := fun _ => fun
  | [d] => { results := [.lit (.bool false)], args := [d] }
  | _ => none }
def SeriesComposesWrongFalsely : Prop := seriesComposesRow.holds Tryd.pinned (OpenSpec.ofChange seriesComposesWrong)

/-- 'cayleylaw.SeriesNilpotent': WHATEVER THE INPUT: true; the input reads as it did. -/
def seriesNilpotentSpec : ChangeSpec := { name := "seriesNilpotent", fn := fun _ => fun
  | [d] => { results := [.lit (.bool true)], args := [d] }
  | _ => none }
def seriesNilpotentRow : OpenClaim := { program := "ytolbpjjjoafkkaadoor", sum := "9f9cd6cad17850bed8d9fa00022fd29477562dab1514c6f042373fe9d36f71f3", func := "cayley/cayleylaw.SeriesNilpotent", spec := "seriesNilpotent", unfollowed := true, recurses := true, named := ["math/bits.deBruijn64tab"], apart := false, laid := [("math/bits.deBruijn64tab", laid_math_bits_deBruijn64tab)] }
def SeriesNilpotentSaid : Prop := seriesNilpotentRow.holds Tryd.pinned (OpenSpec.ofChange seriesNilpotentSpec)

/-- ITS FALSE NEIGHBOUR: 'it returns false'. Refute it at one input. -/
def seriesNilpotentWrong : ChangeSpec := { name := "seriesNilpotent", fn := fun _ => fun
  | [d] => { results := [.lit (.bool false)], args := [d] }
  | _ => none }
def SeriesNilpotentWrongFalsely : Prop := seriesNilpotentRow.holds Tryd.pinned (OpenSpec.ofChange seriesNilpotentWrong)

/-- 'cayleylaw.SeriesNormal': WHATEVER THE INPUT: true; the input reads as it did. -/
def seriesNormalSpec : ChangeSpec := { name := "seriesNormal", fn := fun _ => fun
  | [d] => { results := [.lit (.bool true)], args := [d] }
  | _ => none }
def seriesNormalRow : OpenClaim := { program := "ytolbpjjjoafkkaadoor", sum := "9f9cd6cad17850bed8d9fa00022fd29477562dab1514c6f042373fe9d36f71f3", func := "cayley/cayleylaw.SeriesNormal", spec := "seriesNormal", unfollowed := true, recurses := true, named := ["math/bits.deBruijn64tab"], apart := false, laid := [("math/bits.deBruijn64tab", laid_math_bits_deBruijn64tab)] }
def SeriesNormalSaid : Prop := seriesNormalRow.holds Tryd.pinned (OpenSpec.ofChange seriesNormalSpec)

/-- ITS FALSE NEIGHBOUR: 'it returns false'. Refute it at one input. -/
def seriesNormalWrong : ChangeSpec := { name := "seriesNormal", fn := fun _ => fun
  | [d] => { results := [.lit (.bool false)], args := [d] }
  | _ => none }
def SeriesNormalWrongFalsely : Prop := seriesNormalRow.holds Tryd.pinned (OpenSpec.ofChange seriesNormalWrong)

/-- 'cayleylaw.SeriesGrow': WHATEVER THE INPUT: true; the input reads as it did. -/
def seriesGrowSpec : ChangeSpec := { name := "seriesGrow", fn := fun _ => fun
  | [d1, d2] => { results := [.lit (.bool true)], args := [d1, d2] }
  | _ => none }
def seriesGrowRow : OpenClaim := { program := "ytolbpjjjoafkkaadoor", sum := "9f9cd6cad17850bed8d9fa00022fd29477562dab1514c6f042373fe9d36f71f3", func := "cayley/cayleylaw.SeriesGrow", spec := "seriesGrow", unfollowed := true, recurses := true, named := ["math/bits.deBruijn64tab"], apart := false, laid := [("math/bits.deBruijn64tab", laid_math_bits_deBruijn64tab)] }
def SeriesGrowSaid : Prop := seriesGrowRow.holds Tryd.pinned (OpenSpec.ofChange seriesGrowSpec)

/-- ITS FALSE NEIGHBOUR: 'it returns false'. Refute it at one input. -/
def seriesGrowWrong : ChangeSpec := { name := "seriesGrow", fn := fun _ => fun
  | [d1, d2] => { results := [.lit (.bool false)], args := [d1, d2] }
  | _ => none }
def SeriesGrowWrongFalsely : Prop := seriesGrowRow.holds Tryd.pinned (OpenSpec.ofChange seriesGrowWrong)

/- THE SECOND FORM. 'bulk': how many values and letters a reading holds, each counted each time it is reached (what is shared counts as often as it is met; a slice's spare places count too). A statement '..UptoSaid' is the law's where the arguments, and the package variables that the reading takes, are together of bulk at most 1048576: NARROWER than '..Said'. Prove '..Said' where nothing that the law and all that it calls make is longer than what came in: it says more and counts as full. Else prove '..UptoSaid'. A law counts once. -/
mutual
def uptoBulk {H : Type} : DataW H → Nat
  | .lit (.string bytes) => bytes.length + 1
  | .lit _ => 1
  | .nil => 1
  | .ptr d => uptoBulk d + 1
  | .slice elems spare => uptoBulkAll elems + uptoBulkAll spare + 1
  | .agg parts => uptoBulkAll parts + 1
  | .iface _ d => uptoBulk d + 1
  | .map entries => uptoBulkEntries entries + 1
  | .held _ => 1
def uptoBulkAll {H : Type} : List (DataW H) → Nat
  | [] => 0
  | d :: r => uptoBulk d + uptoBulkAll r
def uptoBulkEntries {H : Type} : List (Lit × DataW H) → Nat
  | [] => 0
  | x :: r => uptoBulkEntry x + uptoBulkEntries r
def uptoBulkEntry {H : Type} : Lit × DataW H → Nat
  | (.string bytes, d) => bytes.length + uptoBulk d + 1
  | (_, d) => uptoBulk d + 1
 end
def uptoSmall : (H : Type) → List (DataW H) → Bool := fun _ ds => decide (uptoBulkAll ds ≤ 1048576)
def OpenSpec.upto (s : _root_.Go.ChangeSpec) : _root_.Go.OpenSpec := { _root_.Go.OpenSpec.ofChange s with cond := some uptoSmall }

/-- 'cayleylaw.SylowAll', WHERE WHAT IT READS IS OF BULK AT MOST 1048576: true; the input reads as it did. -/
def sylowAllUptoRow : OpenClaim := { program := "ytolbpjjjoafkkaadoor", sum := "9f9cd6cad17850bed8d9fa00022fd29477562dab1514c6f042373fe9d36f71f3", func := "cayley/cayleylaw.SylowAll", spec := "sylowAll", unfollowed := true, recurses := true, named := ["math/bits.deBruijn64tab"], apart := false, laid := [("math/bits.deBruijn64tab", laid_math_bits_deBruijn64tab)], narrowed := true }
def SylowAllUptoSaid : Prop := sylowAllUptoRow.holds Tryd.pinned (OpenSpec.upto sylowAllSpec)

/-- 'cayleylaw.SylowHolds', WHERE WHAT IT READS IS OF BULK AT MOST 1048576: true; the input reads as it did. -/
def sylowHoldsUptoRow : OpenClaim := { program := "ytolbpjjjoafkkaadoor", sum := "9f9cd6cad17850bed8d9fa00022fd29477562dab1514c6f042373fe9d36f71f3", func := "cayley/cayleylaw.SylowHolds", spec := "sylowHolds", unfollowed := true, recurses := true, named := ["math/bits.deBruijn64tab"], apart := false, laid := [("math/bits.deBruijn64tab", laid_math_bits_deBruijn64tab)], narrowed := true }
def SylowHoldsUptoSaid : Prop := sylowHoldsUptoRow.holds Tryd.pinned (OpenSpec.upto sylowHoldsSpec)

/-- 'cayleylaw.SylowFrattini', WHERE WHAT IT READS IS OF BULK AT MOST 1048576: true; the input reads as it did. -/
def sylowFrattiniUptoRow : OpenClaim := { program := "ytolbpjjjoafkkaadoor", sum := "9f9cd6cad17850bed8d9fa00022fd29477562dab1514c6f042373fe9d36f71f3", func := "cayley/cayleylaw.SylowFrattini", spec := "sylowFrattini", unfollowed := true, recurses := true, named := ["math/bits.deBruijn64tab"], apart := false, laid := [("math/bits.deBruijn64tab", laid_math_bits_deBruijn64tab)], narrowed := true }
def SylowFrattiniUptoSaid : Prop := sylowFrattiniUptoRow.holds Tryd.pinned (OpenSpec.upto sylowFrattiniSpec)

/-- 'cayleylaw.SylowQuotients', WHERE WHAT IT READS IS OF BULK AT MOST 1048576: true; the input reads as it did. -/
def sylowQuotientsUptoRow : OpenClaim := { program := "ytolbpjjjoafkkaadoor", sum := "9f9cd6cad17850bed8d9fa00022fd29477562dab1514c6f042373fe9d36f71f3", func := "cayley/cayleylaw.SylowQuotients", spec := "sylowQuotients", unfollowed := true, recurses := true, named := ["math/bits.deBruijn64tab"], apart := false, laid := [("math/bits.deBruijn64tab", laid_math_bits_deBruijn64tab)], narrowed := true }
def SylowQuotientsUptoSaid : Prop := sylowQuotientsUptoRow.holds Tryd.pinned (OpenSpec.upto sylowQuotientsSpec)

/-- 'cayleylaw.SylowPowers', WHERE WHAT IT READS IS OF BULK AT MOST 1048576: true; the input reads as it did. -/
def sylowPowersUptoRow : OpenClaim := { program := "ytolbpjjjoafkkaadoor", sum := "9f9cd6cad17850bed8d9fa00022fd29477562dab1514c6f042373fe9d36f71f3", func := "cayley/cayleylaw.SylowPowers", spec := "sylowPowers", unfollowed := true, recurses := true, named := ["math/bits.deBruijn64tab"], apart := false, laid := [("math/bits.deBruijn64tab", laid_math_bits_deBruijn64tab)], narrowed := true }
def SylowPowersUptoSaid : Prop := sylowPowersUptoRow.holds Tryd.pinned (OpenSpec.upto sylowPowersSpec)

/-- 'cayleylaw.SeriesGo', WHERE WHAT IT READS IS OF BULK AT MOST 1048576: true; the input reads as it did. -/
def seriesGoUptoRow : OpenClaim := { program := "ytolbpjjjoafkkaadoor", sum := "9f9cd6cad17850bed8d9fa00022fd29477562dab1514c6f042373fe9d36f71f3", func := "cayley/cayleylaw.SeriesGo", spec := "seriesGo", unfollowed := true, recurses := true, named := ["math/bits.deBruijn64tab"], apart := false, laid := [("math/bits.deBruijn64tab", laid_math_bits_deBruijn64tab)], narrowed := true }
def SeriesGoUptoSaid : Prop := seriesGoUptoRow.holds Tryd.pinned (OpenSpec.upto seriesGoSpec)

/-- 'cayleylaw.SeriesComposes', WHERE WHAT IT READS IS OF BULK AT MOST 1048576: true; the input reads as it did. -/
def seriesComposesUptoRow : OpenClaim := { program := "ytolbpjjjoafkkaadoor", sum := "9f9cd6cad17850bed8d9fa00022fd29477562dab1514c6f042373fe9d36f71f3", func := "cayley/cayleylaw.SeriesComposes", spec := "seriesComposes", unfollowed := true, recurses := true, named := ["math/bits.deBruijn64tab"], apart := false, laid := [("math/bits.deBruijn64tab", laid_math_bits_deBruijn64tab)], narrowed := true }
def SeriesComposesUptoSaid : Prop := seriesComposesUptoRow.holds Tryd.pinned (OpenSpec.upto seriesComposesSpec)

/-- 'cayleylaw.SeriesNilpotent', WHERE WHAT IT READS IS OF BULK AT MOST 1048576: true; the input reads as it did. -/
def seriesNilpotentUptoRow : OpenClaim := { program := "ytolbpjjjoafkkaadoor", sum := "9f9cd6cad17850bed8d9fa00022fd29477562dab1514c6f042373fe9d36f71f3", func := "cayley/cayleylaw.SeriesNilpotent", spec := "seriesNilpotent", unfollowed := true, recurses := true, named := ["math/bits.deBruijn64tab"], apart := false, laid := [("math/bits.deBruijn64tab", laid_math_bits_deBruijn64tab)], narrowed := true }
def SeriesNilpotentUptoSaid : Prop := seriesNilpotentUptoRow.holds Tryd.pinned (OpenSpec.upto seriesNilpotentSpec)

/-- 'cayleylaw.SeriesNormal', WHERE WHAT IT READS IS OF BULK AT MOST 1048576: true; the input reads as it did. -/
def seriesNormalUptoRow : OpenClaim := { program := "ytolbpjjjoafkkaadoor", sum := "9f9cd6cad17850bed8d9fa00022fd29477562dab1514c6f042373fe9d36f71f3", func := "cayley/cayleylaw.SeriesNormal", spec := "seriesNormal", unfollowed := true, recurses := true, named := ["math/bits.deBruijn64tab"], apart := false, laid := [("math/bits.deBruijn64tab", laid_math_bits_deBruijn64tab)], narrowed := true }
def SeriesNormalUptoSaid : Prop := seriesNormalUptoRow.holds Tryd.pinned (OpenSpec.upto seriesNormalSpec)

/-- 'cayleylaw.SeriesGrow', WHERE WHAT IT READS IS OF BULK AT MOST 1048576: true; the input reads as it did. -/
def seriesGrowUptoRow : OpenClaim := { program := "ytolbpjjjoafkkaadoor", sum := "9f9cd6cad17850bed8d9fa00022fd29477562dab1514c6f042373fe9d36f71f3", func := "cayley/cayleylaw.SeriesGrow", spec := "seriesGrow", unfollowed := true, recurses := true, named := ["math/bits.deBruijn64tab"], apart := false, laid := [("math/bits.deBruijn64tab", laid_math_bits_deBruijn64tab)], narrowed := true }
def SeriesGrowUptoSaid : Prop := seriesGrowUptoRow.holds Tryd.pinned (OpenSpec.upto seriesGrowSpec)

end Rows
end Go.Proofs.YtolbpjjjoafkkaaDoor
