/-
  NARROWER THAN 'FOR EVERY INPUT', by the rows' own cells (each row's printed sentence says how): FnExactRedexOf: loops · FnExactContractTerm: loops · FnExactStepTerm: loops · FnExactStepInner: loops · FnExactNormalTerm: loops · FnExactNormalize: loops · FnExactNormalizeInner: loops · FnExactHeadNormal: loops.
  DERIVED. THE GIVEN ROWS OF THIS SEAT. 12 by the template 'for every input the law returns true; each argument reads behind the call as it read before'; 0 by the template 'total and deterministic' (their statements: YtohlpjfhhbcebaaTotals.lean).
  GIVEN WITH THE SEED: the statements are not yours to turn. If you find one false, say at which input.
  Laid BY PROGRAM, IN A SANDBOX (cutbox-rows.mjs): the forced cells as the released guide's own fill.sh prints them over the translation 3dd1c70808d5807a… (all of the seat's roots in one cut). By AI agents, Wed Nov 11 2026. No macro, syntax, notation, axiom, sorry.
-/
import Derived.Test.YtohlpjfhhbcebaaChecked
import GoSem.Claim
import GoSem.ClaimJoined
import GoSem.ClaimMapViews
import Derived.JoinedTies
import Derived.KernelRfl
namespace Go.Proofs.Ytohlpjfhhbcebaa
/- THE CELL 'sum', in the pinned program and in every row, IS THE sha256 OF THE DUMP (.gsa) THAT YtohlpjfhhbcebaaProg.lean LOADS. Nothing in Lean hashes anything: it is a label: what it is worth is what the hold of that sum in a sandbox is worth. -/
noncomputable def Try.pinned : Pinned := { name := "ytohlpjfhhbcebaa", sum := "3dd1c70808d5807a96dd18961c9c46ce41bba1c69823a4a26ce0f31574c8f3df", checked := Try.checked }
namespace Rows
def none {H : Type} : Left H := { results := [], args := [] }

/-- 'laws.FnExactRedexOf': WHATEVER THE INPUT: true; the input reads as it did. -/
def fnExactRedexOfSpec : ChangeSpec := { name := "fnExactRedexOf", fn := fun _ => fun
  | [d] => { results := [.lit (.bool true)], args := [d] }
  | _ => none }
def fnExactRedexOfRow : OpenClaim := { program := "ytohlpjfhhbcebaa", sum := "3dd1c70808d5807a96dd18961c9c46ce41bba1c69823a4a26ce0f31574c8f3df", func := "loop.example/depkernel/laws.FnExactRedexOf", spec := "fnExactRedexOf", unfollowed := true, recurses := true, loops := true, plainKeys := false, apart := false }
def FnExactRedexOfSaid : Prop := fnExactRedexOfRow.holds Try.pinned (OpenSpec.ofChange fnExactRedexOfSpec)

/-- ITS FALSE NEIGHBOUR: 'it returns false'. Refute it at one input. -/
def fnExactRedexOfWrong : ChangeSpec := { name := "fnExactRedexOf", fn := fun _ => fun
  | [d] => { results := [.lit (.bool false)], args := [d] }
  | _ => none }
def FnExactRedexOfWrongFalsely : Prop := fnExactRedexOfRow.holds Try.pinned (OpenSpec.ofChange fnExactRedexOfWrong)

/-- 'laws.FnExactContractTerm': WHATEVER THE INPUT: true; the input reads as it did. -/
def fnExactContractTermSpec : ChangeSpec := { name := "fnExactContractTerm", fn := fun _ => fun
  | [d] => { results := [.lit (.bool true)], args := [d] }
  | _ => none }
def fnExactContractTermRow : OpenClaim := { program := "ytohlpjfhhbcebaa", sum := "3dd1c70808d5807a96dd18961c9c46ce41bba1c69823a4a26ce0f31574c8f3df", func := "loop.example/depkernel/laws.FnExactContractTerm", spec := "fnExactContractTerm", unfollowed := true, recurses := true, loops := true, plainKeys := false, apart := false }
def FnExactContractTermSaid : Prop := fnExactContractTermRow.holds Try.pinned (OpenSpec.ofChange fnExactContractTermSpec)

/-- ITS FALSE NEIGHBOUR: 'it returns false'. Refute it at one input. -/
def fnExactContractTermWrong : ChangeSpec := { name := "fnExactContractTerm", fn := fun _ => fun
  | [d] => { results := [.lit (.bool false)], args := [d] }
  | _ => none }
def FnExactContractTermWrongFalsely : Prop := fnExactContractTermRow.holds Try.pinned (OpenSpec.ofChange fnExactContractTermWrong)

/-- 'laws.FnExactStepTerm': WHATEVER THE INPUT: true; the input reads as it did. -/
def fnExactStepTermSpec : ChangeSpec := { name := "fnExactStepTerm", fn := fun _ => fun
  | [d] => { results := [.lit (.bool true)], args := [d] }
  | _ => none }
def fnExactStepTermRow : OpenClaim := { program := "ytohlpjfhhbcebaa", sum := "3dd1c70808d5807a96dd18961c9c46ce41bba1c69823a4a26ce0f31574c8f3df", func := "loop.example/depkernel/laws.FnExactStepTerm", spec := "fnExactStepTerm", unfollowed := true, recurses := true, loops := true, plainKeys := false, apart := false }
def FnExactStepTermSaid : Prop := fnExactStepTermRow.holds Try.pinned (OpenSpec.ofChange fnExactStepTermSpec)

/-- ITS FALSE NEIGHBOUR: 'it returns false'. Refute it at one input. -/
def fnExactStepTermWrong : ChangeSpec := { name := "fnExactStepTerm", fn := fun _ => fun
  | [d] => { results := [.lit (.bool false)], args := [d] }
  | _ => none }
def FnExactStepTermWrongFalsely : Prop := fnExactStepTermRow.holds Try.pinned (OpenSpec.ofChange fnExactStepTermWrong)

/-- 'laws.FnExactStepInner': WHATEVER THE INPUT: true; the input reads as it did. -/
def fnExactStepInnerSpec : ChangeSpec := { name := "fnExactStepInner", fn := fun _ => fun
  | [d] => { results := [.lit (.bool true)], args := [d] }
  | _ => none }
def fnExactStepInnerRow : OpenClaim := { program := "ytohlpjfhhbcebaa", sum := "3dd1c70808d5807a96dd18961c9c46ce41bba1c69823a4a26ce0f31574c8f3df", func := "loop.example/depkernel/laws.FnExactStepInner", spec := "fnExactStepInner", unfollowed := true, recurses := true, loops := true, plainKeys := false, apart := false }
def FnExactStepInnerSaid : Prop := fnExactStepInnerRow.holds Try.pinned (OpenSpec.ofChange fnExactStepInnerSpec)

/-- ITS FALSE NEIGHBOUR: 'it returns false'. Refute it at one input. -/
def fnExactStepInnerWrong : ChangeSpec := { name := "fnExactStepInner", fn := fun _ => fun
  | [d] => { results := [.lit (.bool false)], args := [d] }
  | _ => none }
def FnExactStepInnerWrongFalsely : Prop := fnExactStepInnerRow.holds Try.pinned (OpenSpec.ofChange fnExactStepInnerWrong)

/-- 'laws.FnExactNormalTerm': WHATEVER THE INPUT: true; the input reads as it did. -/
def fnExactNormalTermSpec : ChangeSpec := { name := "fnExactNormalTerm", fn := fun _ => fun
  | [d] => { results := [.lit (.bool true)], args := [d] }
  | _ => none }
def fnExactNormalTermRow : OpenClaim := { program := "ytohlpjfhhbcebaa", sum := "3dd1c70808d5807a96dd18961c9c46ce41bba1c69823a4a26ce0f31574c8f3df", func := "loop.example/depkernel/laws.FnExactNormalTerm", spec := "fnExactNormalTerm", unfollowed := true, recurses := true, loops := true, plainKeys := false, apart := false }
def FnExactNormalTermSaid : Prop := fnExactNormalTermRow.holds Try.pinned (OpenSpec.ofChange fnExactNormalTermSpec)

/-- ITS FALSE NEIGHBOUR: 'it returns false'. Refute it at one input. -/
def fnExactNormalTermWrong : ChangeSpec := { name := "fnExactNormalTerm", fn := fun _ => fun
  | [d] => { results := [.lit (.bool false)], args := [d] }
  | _ => none }
def FnExactNormalTermWrongFalsely : Prop := fnExactNormalTermRow.holds Try.pinned (OpenSpec.ofChange fnExactNormalTermWrong)

/-- 'laws.FnExactNormalize': WHATEVER THE INPUT: true; the input reads as it did. -/
def fnExactNormalizeSpec : ChangeSpec := { name := "fnExactNormalize", fn := fun _ => fun
  | [d1, d2] => { results := [.lit (.bool true)], args := [d1, d2] }
  | _ => none }
def fnExactNormalizeRow : OpenClaim := { program := "ytohlpjfhhbcebaa", sum := "3dd1c70808d5807a96dd18961c9c46ce41bba1c69823a4a26ce0f31574c8f3df", func := "loop.example/depkernel/laws.FnExactNormalize", spec := "fnExactNormalize", unfollowed := true, recurses := true, loops := true, plainKeys := false, apart := false }
def FnExactNormalizeSaid : Prop := fnExactNormalizeRow.holds Try.pinned (OpenSpec.ofChange fnExactNormalizeSpec)

/-- ITS FALSE NEIGHBOUR: 'it returns false'. Refute it at one input. -/
def fnExactNormalizeWrong : ChangeSpec := { name := "fnExactNormalize", fn := fun _ => fun
  | [d1, d2] => { results := [.lit (.bool false)], args := [d1, d2] }
  | _ => none }
def FnExactNormalizeWrongFalsely : Prop := fnExactNormalizeRow.holds Try.pinned (OpenSpec.ofChange fnExactNormalizeWrong)

/-- 'laws.FnExactNormalizeInner': WHATEVER THE INPUT: true; the input reads as it did. -/
def fnExactNormalizeInnerSpec : ChangeSpec := { name := "fnExactNormalizeInner", fn := fun _ => fun
  | [d1, d2] => { results := [.lit (.bool true)], args := [d1, d2] }
  | _ => none }
def fnExactNormalizeInnerRow : OpenClaim := { program := "ytohlpjfhhbcebaa", sum := "3dd1c70808d5807a96dd18961c9c46ce41bba1c69823a4a26ce0f31574c8f3df", func := "loop.example/depkernel/laws.FnExactNormalizeInner", spec := "fnExactNormalizeInner", unfollowed := true, recurses := true, loops := true, plainKeys := false, apart := false }
def FnExactNormalizeInnerSaid : Prop := fnExactNormalizeInnerRow.holds Try.pinned (OpenSpec.ofChange fnExactNormalizeInnerSpec)

/-- ITS FALSE NEIGHBOUR: 'it returns false'. Refute it at one input. -/
def fnExactNormalizeInnerWrong : ChangeSpec := { name := "fnExactNormalizeInner", fn := fun _ => fun
  | [d1, d2] => { results := [.lit (.bool false)], args := [d1, d2] }
  | _ => none }
def FnExactNormalizeInnerWrongFalsely : Prop := fnExactNormalizeInnerRow.holds Try.pinned (OpenSpec.ofChange fnExactNormalizeInnerWrong)

/-- 'laws.FnExactHeadNormal': WHATEVER THE INPUT: true; the input reads as it did. -/
def fnExactHeadNormalSpec : ChangeSpec := { name := "fnExactHeadNormal", fn := fun _ => fun
  | [d1, d2] => { results := [.lit (.bool true)], args := [d1, d2] }
  | _ => none }
def fnExactHeadNormalRow : OpenClaim := { program := "ytohlpjfhhbcebaa", sum := "3dd1c70808d5807a96dd18961c9c46ce41bba1c69823a4a26ce0f31574c8f3df", func := "loop.example/depkernel/laws.FnExactHeadNormal", spec := "fnExactHeadNormal", unfollowed := true, recurses := true, loops := true, plainKeys := false, apart := false }
def FnExactHeadNormalSaid : Prop := fnExactHeadNormalRow.holds Try.pinned (OpenSpec.ofChange fnExactHeadNormalSpec)

/-- ITS FALSE NEIGHBOUR: 'it returns false'. Refute it at one input. -/
def fnExactHeadNormalWrong : ChangeSpec := { name := "fnExactHeadNormal", fn := fun _ => fun
  | [d1, d2] => { results := [.lit (.bool false)], args := [d1, d2] }
  | _ => none }
def FnExactHeadNormalWrongFalsely : Prop := fnExactHeadNormalRow.holds Try.pinned (OpenSpec.ofChange fnExactHeadNormalWrong)

/-- 'laws.FnMaxFree': WHATEVER THE INPUT: true; the input reads as it did. -/
def fnMaxFreeSpec : ChangeSpec := { name := "fnMaxFree", fn := fun _ => fun
  | [d] => { results := [.lit (.bool true)], args := [d] }
  | _ => none }
def fnMaxFreeRow : OpenClaim := { program := "ytohlpjfhhbcebaa", sum := "3dd1c70808d5807a96dd18961c9c46ce41bba1c69823a4a26ce0f31574c8f3df", func := "loop.example/depkernel/laws.FnMaxFree", spec := "fnMaxFree", unfollowed := true, recurses := true, plainKeys := false, apart := false }
def FnMaxFreeSaid : Prop := fnMaxFreeRow.holds Try.pinned (OpenSpec.ofChange fnMaxFreeSpec)

/-- ITS FALSE NEIGHBOUR: 'it returns false'. Refute it at one input. -/
def fnMaxFreeWrong : ChangeSpec := { name := "fnMaxFree", fn := fun _ => fun
  | [d] => { results := [.lit (.bool false)], args := [d] }
  | _ => none }
def FnMaxFreeWrongFalsely : Prop := fnMaxFreeRow.holds Try.pinned (OpenSpec.ofChange fnMaxFreeWrong)

/-- 'laws.FnShiftFree': WHATEVER THE INPUT: true; the input reads as it did. -/
def fnShiftFreeSpec : ChangeSpec := { name := "fnShiftFree", fn := fun _ => fun
  | [d] => { results := [.lit (.bool true)], args := [d] }
  | _ => none }
def fnShiftFreeRow : OpenClaim := { program := "ytohlpjfhhbcebaa", sum := "3dd1c70808d5807a96dd18961c9c46ce41bba1c69823a4a26ce0f31574c8f3df", func := "loop.example/depkernel/laws.FnShiftFree", spec := "fnShiftFree", unfollowed := true, recurses := true, plainKeys := false, apart := false }
def FnShiftFreeSaid : Prop := fnShiftFreeRow.holds Try.pinned (OpenSpec.ofChange fnShiftFreeSpec)

/-- ITS FALSE NEIGHBOUR: 'it returns false'. Refute it at one input. -/
def fnShiftFreeWrong : ChangeSpec := { name := "fnShiftFree", fn := fun _ => fun
  | [d] => { results := [.lit (.bool false)], args := [d] }
  | _ => none }
def FnShiftFreeWrongFalsely : Prop := fnShiftFreeRow.holds Try.pinned (OpenSpec.ofChange fnShiftFreeWrong)

/-- 'laws.FnSameParts': WHATEVER THE INPUT: true; the input reads as it did. -/
def fnSamePartsSpec : ChangeSpec := { name := "fnSameParts", fn := fun _ => fun
  | [d] => { results := [.lit (.bool true)], args := [d] }
  | _ => none }
def fnSamePartsRow : OpenClaim := { program := "ytohlpjfhhbcebaa", sum := "3dd1c70808d5807a96dd18961c9c46ce41bba1c69823a4a26ce0f31574c8f3df", func := "loop.example/depkernel/laws.FnSameParts", spec := "fnSameParts", unfollowed := true, recurses := true, plainKeys := false, apart := false }
def FnSamePartsSaid : Prop := fnSamePartsRow.holds Try.pinned (OpenSpec.ofChange fnSamePartsSpec)

/-- ITS FALSE NEIGHBOUR: 'it returns false'. Refute it at one input. -/
def fnSamePartsWrong : ChangeSpec := { name := "fnSameParts", fn := fun _ => fun
  | [d] => { results := [.lit (.bool false)], args := [d] }
  | _ => none }
def FnSamePartsWrongFalsely : Prop := fnSamePartsRow.holds Try.pinned (OpenSpec.ofChange fnSamePartsWrong)

/-- 'laws.FnNumeralValue': WHATEVER THE INPUT: true; the input reads as it did. -/
def fnNumeralValueSpec : ChangeSpec := { name := "fnNumeralValue", fn := fun _ => fun
  | [d] => { results := [.lit (.bool true)], args := [d] }
  | _ => none }
def fnNumeralValueRow : OpenClaim := { program := "ytohlpjfhhbcebaa", sum := "3dd1c70808d5807a96dd18961c9c46ce41bba1c69823a4a26ce0f31574c8f3df", func := "loop.example/depkernel/laws.FnNumeralValue", spec := "fnNumeralValue", unfollowed := true, recurses := true, plainKeys := false, apart := false }
def FnNumeralValueSaid : Prop := fnNumeralValueRow.holds Try.pinned (OpenSpec.ofChange fnNumeralValueSpec)

/-- ITS FALSE NEIGHBOUR: 'it returns false'. Refute it at one input. -/
def fnNumeralValueWrong : ChangeSpec := { name := "fnNumeralValue", fn := fun _ => fun
  | [d] => { results := [.lit (.bool false)], args := [d] }
  | _ => none }
def FnNumeralValueWrongFalsely : Prop := fnNumeralValueRow.holds Try.pinned (OpenSpec.ofChange fnNumeralValueWrong)

/- THE SECOND FORM. 'bulk': how many values and letters a reading holds, each counted each time it is reached (what is shared counts as often as it is met; a slice's spare places count too). A statement '..UptoSaid' is the law's where the arguments, and the package variables that the reading takes, are together of bulk at most 1048576: NARROWER than '..Said'. Prove '..Said' where nothing that the law and all that it calls make is longer than what came in: it says more and counts as full. Else prove '..UptoSaid'. A law counts once. -/
mutual
def uptoBulk {H : Type} : DataW H → Nat
  | .lit (.string bytes) => bytes.length + 1
  | .lit _ => 1
  | .nil => 1
  | .ptr d => uptoBulk d + 1
  | .slice elems spare => uptoBulkAll elems + uptoBulkAll spare + 1
  | .agg parts => uptoBulkAll parts + 1
  | .iface _ d => uptoBulk d + 1
  | .map entries => uptoBulkEntries entries + 1
  | .held _ => 1
def uptoBulkAll {H : Type} : List (DataW H) → Nat
  | [] => 0
  | d :: r => uptoBulk d + uptoBulkAll r
def uptoBulkEntries {H : Type} : List (Lit × DataW H) → Nat
  | [] => 0
  | x :: r => uptoBulkEntry x + uptoBulkEntries r
def uptoBulkEntry {H : Type} : Lit × DataW H → Nat
  | (.string bytes, d) => bytes.length + uptoBulk d + 1
  | (_, d) => uptoBulk d + 1
 end
def uptoSmall : (H : Type) → List (DataW H) → Bool := fun _ ds => decide (uptoBulkAll ds ≤ 1048576)
def OpenSpec.upto (s : _root_.Go.ChangeSpec) : _root_.Go.OpenSpec := { _root_.Go.OpenSpec.ofChange s with cond := some uptoSmall }

/-- 'laws.FnExactRedexOf', WHERE WHAT IT READS IS OF BULK AT MOST 1048576: true; the input reads as it did. -/
def fnExactRedexOfUptoRow : OpenClaim := { program := "ytohlpjfhhbcebaa", sum := "3dd1c70808d5807a96dd18961c9c46ce41bba1c69823a4a26ce0f31574c8f3df", func := "loop.example/depkernel/laws.FnExactRedexOf", spec := "fnExactRedexOf", unfollowed := true, recurses := true, loops := true, plainKeys := false, apart := false, narrowed := true }
def FnExactRedexOfUptoSaid : Prop := fnExactRedexOfUptoRow.holds Try.pinned (OpenSpec.upto fnExactRedexOfSpec)

/-- 'laws.FnExactContractTerm', WHERE WHAT IT READS IS OF BULK AT MOST 1048576: true; the input reads as it did. -/
def fnExactContractTermUptoRow : OpenClaim := { program := "ytohlpjfhhbcebaa", sum := "3dd1c70808d5807a96dd18961c9c46ce41bba1c69823a4a26ce0f31574c8f3df", func := "loop.example/depkernel/laws.FnExactContractTerm", spec := "fnExactContractTerm", unfollowed := true, recurses := true, loops := true, plainKeys := false, apart := false, narrowed := true }
def FnExactContractTermUptoSaid : Prop := fnExactContractTermUptoRow.holds Try.pinned (OpenSpec.upto fnExactContractTermSpec)

/-- 'laws.FnExactStepTerm', WHERE WHAT IT READS IS OF BULK AT MOST 1048576: true; the input reads as it did. -/
def fnExactStepTermUptoRow : OpenClaim := { program := "ytohlpjfhhbcebaa", sum := "3dd1c70808d5807a96dd18961c9c46ce41bba1c69823a4a26ce0f31574c8f3df", func := "loop.example/depkernel/laws.FnExactStepTerm", spec := "fnExactStepTerm", unfollowed := true, recurses := true, loops := true, plainKeys := false, apart := false, narrowed := true }
def FnExactStepTermUptoSaid : Prop := fnExactStepTermUptoRow.holds Try.pinned (OpenSpec.upto fnExactStepTermSpec)

/-- 'laws.FnExactStepInner', WHERE WHAT IT READS IS OF BULK AT MOST 1048576: true; the input reads as it did. -/
def fnExactStepInnerUptoRow : OpenClaim := { program := "ytohlpjfhhbcebaa", sum := "3dd1c70808d5807a96dd18961c9c46ce41bba1c69823a4a26ce0f31574c8f3df", func := "loop.example/depkernel/laws.FnExactStepInner", spec := "fnExactStepInner", unfollowed := true, recurses := true, loops := true, plainKeys := false, apart := false, narrowed := true }
def FnExactStepInnerUptoSaid : Prop := fnExactStepInnerUptoRow.holds Try.pinned (OpenSpec.upto fnExactStepInnerSpec)

/-- 'laws.FnExactNormalTerm', WHERE WHAT IT READS IS OF BULK AT MOST 1048576: true; the input reads as it did. -/
def fnExactNormalTermUptoRow : OpenClaim := { program := "ytohlpjfhhbcebaa", sum := "3dd1c70808d5807a96dd18961c9c46ce41bba1c69823a4a26ce0f31574c8f3df", func := "loop.example/depkernel/laws.FnExactNormalTerm", spec := "fnExactNormalTerm", unfollowed := true, recurses := true, loops := true, plainKeys := false, apart := false, narrowed := true }
def FnExactNormalTermUptoSaid : Prop := fnExactNormalTermUptoRow.holds Try.pinned (OpenSpec.upto fnExactNormalTermSpec)

/-- 'laws.FnExactNormalize', WHERE WHAT IT READS IS OF BULK AT MOST 1048576: true; the input reads as it did. -/
def fnExactNormalizeUptoRow : OpenClaim := { program := "ytohlpjfhhbcebaa", sum := "3dd1c70808d5807a96dd18961c9c46ce41bba1c69823a4a26ce0f31574c8f3df", func := "loop.example/depkernel/laws.FnExactNormalize", spec := "fnExactNormalize", unfollowed := true, recurses := true, loops := true, plainKeys := false, apart := false, narrowed := true }
def FnExactNormalizeUptoSaid : Prop := fnExactNormalizeUptoRow.holds Try.pinned (OpenSpec.upto fnExactNormalizeSpec)

/-- 'laws.FnExactNormalizeInner', WHERE WHAT IT READS IS OF BULK AT MOST 1048576: true; the input reads as it did. -/
def fnExactNormalizeInnerUptoRow : OpenClaim := { program := "ytohlpjfhhbcebaa", sum := "3dd1c70808d5807a96dd18961c9c46ce41bba1c69823a4a26ce0f31574c8f3df", func := "loop.example/depkernel/laws.FnExactNormalizeInner", spec := "fnExactNormalizeInner", unfollowed := true, recurses := true, loops := true, plainKeys := false, apart := false, narrowed := true }
def FnExactNormalizeInnerUptoSaid : Prop := fnExactNormalizeInnerUptoRow.holds Try.pinned (OpenSpec.upto fnExactNormalizeInnerSpec)

/-- 'laws.FnExactHeadNormal', WHERE WHAT IT READS IS OF BULK AT MOST 1048576: true; the input reads as it did. -/
def fnExactHeadNormalUptoRow : OpenClaim := { program := "ytohlpjfhhbcebaa", sum := "3dd1c70808d5807a96dd18961c9c46ce41bba1c69823a4a26ce0f31574c8f3df", func := "loop.example/depkernel/laws.FnExactHeadNormal", spec := "fnExactHeadNormal", unfollowed := true, recurses := true, loops := true, plainKeys := false, apart := false, narrowed := true }
def FnExactHeadNormalUptoSaid : Prop := fnExactHeadNormalUptoRow.holds Try.pinned (OpenSpec.upto fnExactHeadNormalSpec)

/-- 'laws.FnMaxFree', WHERE WHAT IT READS IS OF BULK AT MOST 1048576: true; the input reads as it did. -/
def fnMaxFreeUptoRow : OpenClaim := { program := "ytohlpjfhhbcebaa", sum := "3dd1c70808d5807a96dd18961c9c46ce41bba1c69823a4a26ce0f31574c8f3df", func := "loop.example/depkernel/laws.FnMaxFree", spec := "fnMaxFree", unfollowed := true, recurses := true, plainKeys := false, apart := false, narrowed := true }
def FnMaxFreeUptoSaid : Prop := fnMaxFreeUptoRow.holds Try.pinned (OpenSpec.upto fnMaxFreeSpec)

/-- 'laws.FnShiftFree', WHERE WHAT IT READS IS OF BULK AT MOST 1048576: true; the input reads as it did. -/
def fnShiftFreeUptoRow : OpenClaim := { program := "ytohlpjfhhbcebaa", sum := "3dd1c70808d5807a96dd18961c9c46ce41bba1c69823a4a26ce0f31574c8f3df", func := "loop.example/depkernel/laws.FnShiftFree", spec := "fnShiftFree", unfollowed := true, recurses := true, plainKeys := false, apart := false, narrowed := true }
def FnShiftFreeUptoSaid : Prop := fnShiftFreeUptoRow.holds Try.pinned (OpenSpec.upto fnShiftFreeSpec)

/-- 'laws.FnSameParts', WHERE WHAT IT READS IS OF BULK AT MOST 1048576: true; the input reads as it did. -/
def fnSamePartsUptoRow : OpenClaim := { program := "ytohlpjfhhbcebaa", sum := "3dd1c70808d5807a96dd18961c9c46ce41bba1c69823a4a26ce0f31574c8f3df", func := "loop.example/depkernel/laws.FnSameParts", spec := "fnSameParts", unfollowed := true, recurses := true, plainKeys := false, apart := false, narrowed := true }
def FnSamePartsUptoSaid : Prop := fnSamePartsUptoRow.holds Try.pinned (OpenSpec.upto fnSamePartsSpec)

/-- 'laws.FnNumeralValue', WHERE WHAT IT READS IS OF BULK AT MOST 1048576: true; the input reads as it did. -/
def fnNumeralValueUptoRow : OpenClaim := { program := "ytohlpjfhhbcebaa", sum := "3dd1c70808d5807a96dd18961c9c46ce41bba1c69823a4a26ce0f31574c8f3df", func := "loop.example/depkernel/laws.FnNumeralValue", spec := "fnNumeralValue", unfollowed := true, recurses := true, plainKeys := false, apart := false, narrowed := true }
def FnNumeralValueUptoSaid : Prop := fnNumeralValueUptoRow.holds Try.pinned (OpenSpec.upto fnNumeralValueSpec)

end Rows
end Go.Proofs.Ytohlpjfhhbcebaa
