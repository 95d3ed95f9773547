/-
  NARROWER THAN 'FOR EVERY INPUT', by the rows' own cells (each row's printed sentence says how): FnExactTermValid: loops · FnExactTermSame: loops · FnExactFormatTerm: loops · FnExactCountNodes: loops · FnExactTermDepth: loops · FnExactNumeralValue: loops.
  DERIVED. THE GIVEN ROWS OF THIS SEAT. 12 by the template 'for every input the law returns true; each argument reads behind the call as it read before'; 0 by the template 'total and deterministic' (their statements: YtogjmgclidkihaaTotals.lean).
  GIVEN WITH THE SEED: the statements are not yours to turn. If you find one false, say at which input.
  Laid BY PROGRAM, IN A SANDBOX (cutbox-rows.mjs): the forced cells as the released guide's own fill.sh prints them over the translation 2f03bea324f68b8a… (all of the seat's roots in one cut). By AI agents, Wed Nov 11 2026. No macro, syntax, notation, axiom, sorry.
-/
import Derived.Test.YtogjmgclidkihaaChecked
import GoSem.Claim
import GoSem.ClaimJoined
import GoSem.ClaimMapViews
import Derived.JoinedTies
import Derived.KernelRfl
namespace Go.Proofs.Ytogjmgclidkihaa
/- THE CELL 'sum', in the pinned program and in every row, IS THE sha256 OF THE DUMP (.gsa) THAT YtogjmgclidkihaaProg.lean LOADS. Nothing in Lean hashes anything: it is a label: what it is worth is what the hold of that sum in a sandbox is worth. -/
noncomputable def Try.pinned : Pinned := { name := "ytogjmgclidkihaa", sum := "2f03bea324f68b8a2c706580ed93944a4f1b7c393a6904473e5275a96a70e55b", checked := Try.checked }
namespace Rows
def none {H : Type} : Left H := { results := [], args := [] }

/-- 'laws.FnExactTermValid': WHATEVER THE INPUT: true; the input reads as it did. -/
def fnExactTermValidSpec : ChangeSpec := { name := "fnExactTermValid", fn := fun _ => fun
  | [d] => { results := [.lit (.bool true)], args := [d] }
  | _ => none }
def fnExactTermValidRow : OpenClaim := { program := "ytogjmgclidkihaa", sum := "2f03bea324f68b8a2c706580ed93944a4f1b7c393a6904473e5275a96a70e55b", func := "loop.example/depkernel/laws.FnExactTermValid", spec := "fnExactTermValid", unfollowed := true, recurses := true, loops := true, plainKeys := false, apart := false }
def FnExactTermValidSaid : Prop := fnExactTermValidRow.holds Try.pinned (OpenSpec.ofChange fnExactTermValidSpec)

/-- ITS FALSE NEIGHBOUR: 'it returns false'. Refute it at one input. -/
def fnExactTermValidWrong : ChangeSpec := { name := "fnExactTermValid", fn := fun _ => fun
  | [d] => { results := [.lit (.bool false)], args := [d] }
  | _ => none }
def FnExactTermValidWrongFalsely : Prop := fnExactTermValidRow.holds Try.pinned (OpenSpec.ofChange fnExactTermValidWrong)

/-- 'laws.FnExactTermSame': WHATEVER THE INPUT: true; the input reads as it did. -/
def fnExactTermSameSpec : ChangeSpec := { name := "fnExactTermSame", fn := fun _ => fun
  | [d1, d2] => { results := [.lit (.bool true)], args := [d1, d2] }
  | _ => none }
def fnExactTermSameRow : OpenClaim := { program := "ytogjmgclidkihaa", sum := "2f03bea324f68b8a2c706580ed93944a4f1b7c393a6904473e5275a96a70e55b", func := "loop.example/depkernel/laws.FnExactTermSame", spec := "fnExactTermSame", unfollowed := true, recurses := true, loops := true, plainKeys := false, apart := false }
def FnExactTermSameSaid : Prop := fnExactTermSameRow.holds Try.pinned (OpenSpec.ofChange fnExactTermSameSpec)

/-- ITS FALSE NEIGHBOUR: 'it returns false'. Refute it at one input. -/
def fnExactTermSameWrong : ChangeSpec := { name := "fnExactTermSame", fn := fun _ => fun
  | [d1, d2] => { results := [.lit (.bool false)], args := [d1, d2] }
  | _ => none }
def FnExactTermSameWrongFalsely : Prop := fnExactTermSameRow.holds Try.pinned (OpenSpec.ofChange fnExactTermSameWrong)

/-- 'laws.FnExactFormatTerm': WHATEVER THE INPUT: true; the input reads as it did. -/
def fnExactFormatTermSpec : ChangeSpec := { name := "fnExactFormatTerm", fn := fun _ => fun
  | [d] => { results := [.lit (.bool true)], args := [d] }
  | _ => none }
def fnExactFormatTermRow : OpenClaim := { program := "ytogjmgclidkihaa", sum := "2f03bea324f68b8a2c706580ed93944a4f1b7c393a6904473e5275a96a70e55b", func := "loop.example/depkernel/laws.FnExactFormatTerm", spec := "fnExactFormatTerm", unfollowed := true, recurses := true, loops := true, plainKeys := false, apart := false }
def FnExactFormatTermSaid : Prop := fnExactFormatTermRow.holds Try.pinned (OpenSpec.ofChange fnExactFormatTermSpec)

/-- ITS FALSE NEIGHBOUR: 'it returns false'. Refute it at one input. -/
def fnExactFormatTermWrong : ChangeSpec := { name := "fnExactFormatTerm", fn := fun _ => fun
  | [d] => { results := [.lit (.bool false)], args := [d] }
  | _ => none }
def FnExactFormatTermWrongFalsely : Prop := fnExactFormatTermRow.holds Try.pinned (OpenSpec.ofChange fnExactFormatTermWrong)

/-- 'laws.FnExactParseTerm': WHATEVER THE INPUT: true; the input reads as it did. -/
def fnExactParseTermSpec : ChangeSpec := { name := "fnExactParseTerm", fn := fun _ => fun
  | [d] => { results := [.lit (.bool true)], args := [d] }
  | _ => none }
def fnExactParseTermRow : OpenClaim := { program := "ytogjmgclidkihaa", sum := "2f03bea324f68b8a2c706580ed93944a4f1b7c393a6904473e5275a96a70e55b", func := "loop.example/depkernel/laws.FnExactParseTerm", spec := "fnExactParseTerm", recurses := true, plainKeys := false, apart := false }
def FnExactParseTermSaid : Prop := fnExactParseTermRow.holds Try.pinned (OpenSpec.ofChange fnExactParseTermSpec)

/-- ITS FALSE NEIGHBOUR: 'it returns false'. Refute it at one input. -/
def fnExactParseTermWrong : ChangeSpec := { name := "fnExactParseTerm", fn := fun _ => fun
  | [d] => { results := [.lit (.bool false)], args := [d] }
  | _ => none }
def FnExactParseTermWrongFalsely : Prop := fnExactParseTermRow.holds Try.pinned (OpenSpec.ofChange fnExactParseTermWrong)

/-- 'laws.FnExactCountNodes': WHATEVER THE INPUT: true; the input reads as it did. -/
def fnExactCountNodesSpec : ChangeSpec := { name := "fnExactCountNodes", fn := fun _ => fun
  | [d] => { results := [.lit (.bool true)], args := [d] }
  | _ => none }
def fnExactCountNodesRow : OpenClaim := { program := "ytogjmgclidkihaa", sum := "2f03bea324f68b8a2c706580ed93944a4f1b7c393a6904473e5275a96a70e55b", func := "loop.example/depkernel/laws.FnExactCountNodes", spec := "fnExactCountNodes", unfollowed := true, recurses := true, loops := true, plainKeys := false, apart := false }
def FnExactCountNodesSaid : Prop := fnExactCountNodesRow.holds Try.pinned (OpenSpec.ofChange fnExactCountNodesSpec)

/-- ITS FALSE NEIGHBOUR: 'it returns false'. Refute it at one input. -/
def fnExactCountNodesWrong : ChangeSpec := { name := "fnExactCountNodes", fn := fun _ => fun
  | [d] => { results := [.lit (.bool false)], args := [d] }
  | _ => none }
def FnExactCountNodesWrongFalsely : Prop := fnExactCountNodesRow.holds Try.pinned (OpenSpec.ofChange fnExactCountNodesWrong)

/-- 'laws.FnExactTermDepth': WHATEVER THE INPUT: true; the input reads as it did. -/
def fnExactTermDepthSpec : ChangeSpec := { name := "fnExactTermDepth", fn := fun _ => fun
  | [d] => { results := [.lit (.bool true)], args := [d] }
  | _ => none }
def fnExactTermDepthRow : OpenClaim := { program := "ytogjmgclidkihaa", sum := "2f03bea324f68b8a2c706580ed93944a4f1b7c393a6904473e5275a96a70e55b", func := "loop.example/depkernel/laws.FnExactTermDepth", spec := "fnExactTermDepth", unfollowed := true, recurses := true, loops := true, plainKeys := false, apart := false }
def FnExactTermDepthSaid : Prop := fnExactTermDepthRow.holds Try.pinned (OpenSpec.ofChange fnExactTermDepthSpec)

/-- ITS FALSE NEIGHBOUR: 'it returns false'. Refute it at one input. -/
def fnExactTermDepthWrong : ChangeSpec := { name := "fnExactTermDepth", fn := fun _ => fun
  | [d] => { results := [.lit (.bool false)], args := [d] }
  | _ => none }
def FnExactTermDepthWrongFalsely : Prop := fnExactTermDepthRow.holds Try.pinned (OpenSpec.ofChange fnExactTermDepthWrong)

/-- 'laws.FnExactNumeral': WHATEVER THE INPUT: true; the input reads as it did. -/
def fnExactNumeralSpec : ChangeSpec := { name := "fnExactNumeral", fn := fun _ => fun
  | [d] => { results := [.lit (.bool true)], args := [d] }
  | _ => none }
def fnExactNumeralRow : OpenClaim := { program := "ytogjmgclidkihaa", sum := "2f03bea324f68b8a2c706580ed93944a4f1b7c393a6904473e5275a96a70e55b", func := "loop.example/depkernel/laws.FnExactNumeral", spec := "fnExactNumeral", recurses := true, plainKeys := false, apart := false }
def FnExactNumeralSaid : Prop := fnExactNumeralRow.holds Try.pinned (OpenSpec.ofChange fnExactNumeralSpec)

/-- ITS FALSE NEIGHBOUR: 'it returns false'. Refute it at one input. -/
def fnExactNumeralWrong : ChangeSpec := { name := "fnExactNumeral", fn := fun _ => fun
  | [d] => { results := [.lit (.bool false)], args := [d] }
  | _ => none }
def FnExactNumeralWrongFalsely : Prop := fnExactNumeralRow.holds Try.pinned (OpenSpec.ofChange fnExactNumeralWrong)

/-- 'laws.FnExactNumeralValue': WHATEVER THE INPUT: true; the input reads as it did. -/
def fnExactNumeralValueSpec : ChangeSpec := { name := "fnExactNumeralValue", fn := fun _ => fun
  | [d] => { results := [.lit (.bool true)], args := [d] }
  | _ => none }
def fnExactNumeralValueRow : OpenClaim := { program := "ytogjmgclidkihaa", sum := "2f03bea324f68b8a2c706580ed93944a4f1b7c393a6904473e5275a96a70e55b", func := "loop.example/depkernel/laws.FnExactNumeralValue", spec := "fnExactNumeralValue", unfollowed := true, recurses := true, loops := true, plainKeys := false, apart := false }
def FnExactNumeralValueSaid : Prop := fnExactNumeralValueRow.holds Try.pinned (OpenSpec.ofChange fnExactNumeralValueSpec)

/-- ITS FALSE NEIGHBOUR: 'it returns false'. Refute it at one input. -/
def fnExactNumeralValueWrong : ChangeSpec := { name := "fnExactNumeralValue", fn := fun _ => fun
  | [d] => { results := [.lit (.bool false)], args := [d] }
  | _ => none }
def FnExactNumeralValueWrongFalsely : Prop := fnExactNumeralValueRow.holds Try.pinned (OpenSpec.ofChange fnExactNumeralValueWrong)

/-- 'laws.FnTermSame': WHATEVER THE INPUT: true; the input reads as it did. -/
def fnTermSameSpec : ChangeSpec := { name := "fnTermSame", fn := fun _ => fun
  | [d] => { results := [.lit (.bool true)], args := [d] }
  | _ => none }
def fnTermSameRow : OpenClaim := { program := "ytogjmgclidkihaa", sum := "2f03bea324f68b8a2c706580ed93944a4f1b7c393a6904473e5275a96a70e55b", func := "loop.example/depkernel/laws.FnTermSame", spec := "fnTermSame", unfollowed := true, recurses := true, plainKeys := false, apart := false }
def FnTermSameSaid : Prop := fnTermSameRow.holds Try.pinned (OpenSpec.ofChange fnTermSameSpec)

/-- ITS FALSE NEIGHBOUR: 'it returns false'. Refute it at one input. -/
def fnTermSameWrong : ChangeSpec := { name := "fnTermSame", fn := fun _ => fun
  | [d] => { results := [.lit (.bool false)], args := [d] }
  | _ => none }
def FnTermSameWrongFalsely : Prop := fnTermSameRow.holds Try.pinned (OpenSpec.ofChange fnTermSameWrong)

/-- 'laws.FnSameParts': WHATEVER THE INPUT: true; the input reads as it did. -/
def fnSamePartsSpec : ChangeSpec := { name := "fnSameParts", fn := fun _ => fun
  | [d] => { results := [.lit (.bool true)], args := [d] }
  | _ => none }
def fnSamePartsRow : OpenClaim := { program := "ytogjmgclidkihaa", sum := "2f03bea324f68b8a2c706580ed93944a4f1b7c393a6904473e5275a96a70e55b", func := "loop.example/depkernel/laws.FnSameParts", spec := "fnSameParts", unfollowed := true, recurses := true, plainKeys := false, apart := false }
def FnSamePartsSaid : Prop := fnSamePartsRow.holds Try.pinned (OpenSpec.ofChange fnSamePartsSpec)

/-- ITS FALSE NEIGHBOUR: 'it returns false'. Refute it at one input. -/
def fnSamePartsWrong : ChangeSpec := { name := "fnSameParts", fn := fun _ => fun
  | [d] => { results := [.lit (.bool false)], args := [d] }
  | _ => none }
def FnSamePartsWrongFalsely : Prop := fnSamePartsRow.holds Try.pinned (OpenSpec.ofChange fnSamePartsWrong)

/-- 'laws.FnNumeral': WHATEVER THE INPUT: true; the input reads as it did. -/
def fnNumeralSpec : ChangeSpec := { name := "fnNumeral", fn := fun _ => fun
  | [d] => { results := [.lit (.bool true)], args := [d] }
  | _ => none }
def fnNumeralRow : OpenClaim := { program := "ytogjmgclidkihaa", sum := "2f03bea324f68b8a2c706580ed93944a4f1b7c393a6904473e5275a96a70e55b", func := "loop.example/depkernel/laws.FnNumeral", spec := "fnNumeral", unfollowed := true, recurses := true, plainKeys := false, apart := false }
def FnNumeralSaid : Prop := fnNumeralRow.holds Try.pinned (OpenSpec.ofChange fnNumeralSpec)

/-- ITS FALSE NEIGHBOUR: 'it returns false'. Refute it at one input. -/
def fnNumeralWrong : ChangeSpec := { name := "fnNumeral", fn := fun _ => fun
  | [d] => { results := [.lit (.bool false)], args := [d] }
  | _ => none }
def FnNumeralWrongFalsely : Prop := fnNumeralRow.holds Try.pinned (OpenSpec.ofChange fnNumeralWrong)

/-- 'laws.FnNumeralValue': WHATEVER THE INPUT: true; the input reads as it did. -/
def fnNumeralValueSpec : ChangeSpec := { name := "fnNumeralValue", fn := fun _ => fun
  | [d] => { results := [.lit (.bool true)], args := [d] }
  | _ => none }
def fnNumeralValueRow : OpenClaim := { program := "ytogjmgclidkihaa", sum := "2f03bea324f68b8a2c706580ed93944a4f1b7c393a6904473e5275a96a70e55b", func := "loop.example/depkernel/laws.FnNumeralValue", spec := "fnNumeralValue", unfollowed := true, recurses := true, plainKeys := false, apart := false }
def FnNumeralValueSaid : Prop := fnNumeralValueRow.holds Try.pinned (OpenSpec.ofChange fnNumeralValueSpec)

/-- ITS FALSE NEIGHBOUR: 'it returns false'. Refute it at one input. -/
def fnNumeralValueWrong : ChangeSpec := { name := "fnNumeralValue", fn := fun _ => fun
  | [d] => { results := [.lit (.bool false)], args := [d] }
  | _ => none }
def FnNumeralValueWrongFalsely : Prop := fnNumeralValueRow.holds Try.pinned (OpenSpec.ofChange fnNumeralValueWrong)

/- THE SECOND FORM. 'bulk': how many values and letters a reading holds, each counted each time it is reached (what is shared counts as often as it is met; a slice's spare places count too). A statement '..UptoSaid' is the law's where the arguments, and the package variables that the reading takes, are together of bulk at most 1048576: NARROWER than '..Said'. Prove '..Said' where nothing that the law and all that it calls make is longer than what came in: it says more and counts as full. Else prove '..UptoSaid'. A law counts once. -/
mutual
def uptoBulk {H : Type} : DataW H → Nat
  | .lit (.string bytes) => bytes.length + 1
  | .lit _ => 1
  | .nil => 1
  | .ptr d => uptoBulk d + 1
  | .slice elems spare => uptoBulkAll elems + uptoBulkAll spare + 1
  | .agg parts => uptoBulkAll parts + 1
  | .iface _ d => uptoBulk d + 1
  | .map entries => uptoBulkEntries entries + 1
  | .held _ => 1
def uptoBulkAll {H : Type} : List (DataW H) → Nat
  | [] => 0
  | d :: r => uptoBulk d + uptoBulkAll r
def uptoBulkEntries {H : Type} : List (Lit × DataW H) → Nat
  | [] => 0
  | x :: r => uptoBulkEntry x + uptoBulkEntries r
def uptoBulkEntry {H : Type} : Lit × DataW H → Nat
  | (.string bytes, d) => bytes.length + uptoBulk d + 1
  | (_, d) => uptoBulk d + 1
 end
def uptoSmall : (H : Type) → List (DataW H) → Bool := fun _ ds => decide (uptoBulkAll ds ≤ 1048576)
def OpenSpec.upto (s : _root_.Go.ChangeSpec) : _root_.Go.OpenSpec := { _root_.Go.OpenSpec.ofChange s with cond := some uptoSmall }

/-- 'laws.FnExactTermValid', WHERE WHAT IT READS IS OF BULK AT MOST 1048576: true; the input reads as it did. -/
def fnExactTermValidUptoRow : OpenClaim := { program := "ytogjmgclidkihaa", sum := "2f03bea324f68b8a2c706580ed93944a4f1b7c393a6904473e5275a96a70e55b", func := "loop.example/depkernel/laws.FnExactTermValid", spec := "fnExactTermValid", unfollowed := true, recurses := true, loops := true, plainKeys := false, apart := false, narrowed := true }
def FnExactTermValidUptoSaid : Prop := fnExactTermValidUptoRow.holds Try.pinned (OpenSpec.upto fnExactTermValidSpec)

/-- 'laws.FnExactTermSame', WHERE WHAT IT READS IS OF BULK AT MOST 1048576: true; the input reads as it did. -/
def fnExactTermSameUptoRow : OpenClaim := { program := "ytogjmgclidkihaa", sum := "2f03bea324f68b8a2c706580ed93944a4f1b7c393a6904473e5275a96a70e55b", func := "loop.example/depkernel/laws.FnExactTermSame", spec := "fnExactTermSame", unfollowed := true, recurses := true, loops := true, plainKeys := false, apart := false, narrowed := true }
def FnExactTermSameUptoSaid : Prop := fnExactTermSameUptoRow.holds Try.pinned (OpenSpec.upto fnExactTermSameSpec)

/-- 'laws.FnExactFormatTerm', WHERE WHAT IT READS IS OF BULK AT MOST 1048576: true; the input reads as it did. -/
def fnExactFormatTermUptoRow : OpenClaim := { program := "ytogjmgclidkihaa", sum := "2f03bea324f68b8a2c706580ed93944a4f1b7c393a6904473e5275a96a70e55b", func := "loop.example/depkernel/laws.FnExactFormatTerm", spec := "fnExactFormatTerm", unfollowed := true, recurses := true, loops := true, plainKeys := false, apart := false, narrowed := true }
def FnExactFormatTermUptoSaid : Prop := fnExactFormatTermUptoRow.holds Try.pinned (OpenSpec.upto fnExactFormatTermSpec)

/-- 'laws.FnExactParseTerm', WHERE WHAT IT READS IS OF BULK AT MOST 1048576: true; the input reads as it did. -/
def fnExactParseTermUptoRow : OpenClaim := { program := "ytogjmgclidkihaa", sum := "2f03bea324f68b8a2c706580ed93944a4f1b7c393a6904473e5275a96a70e55b", func := "loop.example/depkernel/laws.FnExactParseTerm", spec := "fnExactParseTerm", recurses := true, plainKeys := false, apart := false, narrowed := true }
def FnExactParseTermUptoSaid : Prop := fnExactParseTermUptoRow.holds Try.pinned (OpenSpec.upto fnExactParseTermSpec)

/-- 'laws.FnExactCountNodes', WHERE WHAT IT READS IS OF BULK AT MOST 1048576: true; the input reads as it did. -/
def fnExactCountNodesUptoRow : OpenClaim := { program := "ytogjmgclidkihaa", sum := "2f03bea324f68b8a2c706580ed93944a4f1b7c393a6904473e5275a96a70e55b", func := "loop.example/depkernel/laws.FnExactCountNodes", spec := "fnExactCountNodes", unfollowed := true, recurses := true, loops := true, plainKeys := false, apart := false, narrowed := true }
def FnExactCountNodesUptoSaid : Prop := fnExactCountNodesUptoRow.holds Try.pinned (OpenSpec.upto fnExactCountNodesSpec)

/-- 'laws.FnExactTermDepth', WHERE WHAT IT READS IS OF BULK AT MOST 1048576: true; the input reads as it did. -/
def fnExactTermDepthUptoRow : OpenClaim := { program := "ytogjmgclidkihaa", sum := "2f03bea324f68b8a2c706580ed93944a4f1b7c393a6904473e5275a96a70e55b", func := "loop.example/depkernel/laws.FnExactTermDepth", spec := "fnExactTermDepth", unfollowed := true, recurses := true, loops := true, plainKeys := false, apart := false, narrowed := true }
def FnExactTermDepthUptoSaid : Prop := fnExactTermDepthUptoRow.holds Try.pinned (OpenSpec.upto fnExactTermDepthSpec)

/-- 'laws.FnExactNumeral', WHERE WHAT IT READS IS OF BULK AT MOST 1048576: true; the input reads as it did. -/
def fnExactNumeralUptoRow : OpenClaim := { program := "ytogjmgclidkihaa", sum := "2f03bea324f68b8a2c706580ed93944a4f1b7c393a6904473e5275a96a70e55b", func := "loop.example/depkernel/laws.FnExactNumeral", spec := "fnExactNumeral", recurses := true, plainKeys := false, apart := false, narrowed := true }
def FnExactNumeralUptoSaid : Prop := fnExactNumeralUptoRow.holds Try.pinned (OpenSpec.upto fnExactNumeralSpec)

/-- 'laws.FnExactNumeralValue', WHERE WHAT IT READS IS OF BULK AT MOST 1048576: true; the input reads as it did. -/
def fnExactNumeralValueUptoRow : OpenClaim := { program := "ytogjmgclidkihaa", sum := "2f03bea324f68b8a2c706580ed93944a4f1b7c393a6904473e5275a96a70e55b", func := "loop.example/depkernel/laws.FnExactNumeralValue", spec := "fnExactNumeralValue", unfollowed := true, recurses := true, loops := true, plainKeys := false, apart := false, narrowed := true }
def FnExactNumeralValueUptoSaid : Prop := fnExactNumeralValueUptoRow.holds Try.pinned (OpenSpec.upto fnExactNumeralValueSpec)

/-- 'laws.FnTermSame', WHERE WHAT IT READS IS OF BULK AT MOST 1048576: true; the input reads as it did. -/
def fnTermSameUptoRow : OpenClaim := { program := "ytogjmgclidkihaa", sum := "2f03bea324f68b8a2c706580ed93944a4f1b7c393a6904473e5275a96a70e55b", func := "loop.example/depkernel/laws.FnTermSame", spec := "fnTermSame", unfollowed := true, recurses := true, plainKeys := false, apart := false, narrowed := true }
def FnTermSameUptoSaid : Prop := fnTermSameUptoRow.holds Try.pinned (OpenSpec.upto fnTermSameSpec)

/-- 'laws.FnSameParts', WHERE WHAT IT READS IS OF BULK AT MOST 1048576: true; the input reads as it did. -/
def fnSamePartsUptoRow : OpenClaim := { program := "ytogjmgclidkihaa", sum := "2f03bea324f68b8a2c706580ed93944a4f1b7c393a6904473e5275a96a70e55b", func := "loop.example/depkernel/laws.FnSameParts", spec := "fnSameParts", unfollowed := true, recurses := true, plainKeys := false, apart := false, narrowed := true }
def FnSamePartsUptoSaid : Prop := fnSamePartsUptoRow.holds Try.pinned (OpenSpec.upto fnSamePartsSpec)

/-- 'laws.FnNumeral', WHERE WHAT IT READS IS OF BULK AT MOST 1048576: true; the input reads as it did. -/
def fnNumeralUptoRow : OpenClaim := { program := "ytogjmgclidkihaa", sum := "2f03bea324f68b8a2c706580ed93944a4f1b7c393a6904473e5275a96a70e55b", func := "loop.example/depkernel/laws.FnNumeral", spec := "fnNumeral", unfollowed := true, recurses := true, plainKeys := false, apart := false, narrowed := true }
def FnNumeralUptoSaid : Prop := fnNumeralUptoRow.holds Try.pinned (OpenSpec.upto fnNumeralSpec)

/-- 'laws.FnNumeralValue', WHERE WHAT IT READS IS OF BULK AT MOST 1048576: true; the input reads as it did. -/
def fnNumeralValueUptoRow : OpenClaim := { program := "ytogjmgclidkihaa", sum := "2f03bea324f68b8a2c706580ed93944a4f1b7c393a6904473e5275a96a70e55b", func := "loop.example/depkernel/laws.FnNumeralValue", spec := "fnNumeralValue", unfollowed := true, recurses := true, plainKeys := false, apart := false, narrowed := true }
def FnNumeralValueUptoSaid : Prop := fnNumeralValueUptoRow.holds Try.pinned (OpenSpec.upto fnNumeralValueSpec)

end Rows
end Go.Proofs.Ytogjmgclidkihaa
