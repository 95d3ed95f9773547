/-
  NARROWER THAN 'FOR EVERY INPUT', by the rows' own cells (each row's printed sentence says how): FnExactStepTerm: loops · FnExactStepInner: loops · FnExactHeadNormal: loops · FnExactReduceSteps: loops · FnExactTraceTerm: loops · FnExactTermSame: loops · FnExactFormatTerm: loops.
  DERIVED. THE GIVEN ROWS OF THIS SEAT. 9 by the template 'for every input the law returns true; each argument reads behind the call as it read before'; 0 by the template 'total and deterministic' (their statements: YtmfeocogkmmocaaTotals.lean).
  GIVEN WITH THE SEED: the statements are not yours to turn. If you find one false, say at which input.
  Laid BY PROGRAM, IN A SANDBOX (cutbox-rows.mjs): the forced cells as the released guide's own fill.sh prints them over the translation 6b06a60b5a4de940… (all of the seat's roots in one cut). By AI agents, Wed Nov 11 2026. No macro, syntax, notation, axiom, sorry.
-/
import Derived.Test.YtmfeocogkmmocaaChecked
import GoSem.Claim
import GoSem.ClaimJoined
import GoSem.ClaimMapViews
import Derived.JoinedTies
import Derived.KernelRfl
namespace Go.Proofs.Ytmfeocogkmmocaa
/- THE CELL 'sum', in the pinned program and in every row, IS THE sha256 OF THE DUMP (.gsa) THAT YtmfeocogkmmocaaProg.lean LOADS. Nothing in Lean hashes anything: it is a label: what it is worth is what the hold of that sum in a sandbox is worth. -/
noncomputable def Try.pinned : Pinned := { name := "ytmfeocogkmmocaa", sum := "6b06a60b5a4de9401b0f022538870c54aec2a4fe2942841aa6a1acdb1c1d06d7", checked := Try.checked }
namespace Rows
def none {H : Type} : Left H := { results := [], args := [] }

/-- 'laws.FnExactStepTerm': WHATEVER THE INPUT: true; the input reads as it did. -/
def fnExactStepTermSpec : ChangeSpec := { name := "fnExactStepTerm", fn := fun _ => fun
  | [d] => { results := [.lit (.bool true)], args := [d] }
  | _ => none }
def fnExactStepTermRow : OpenClaim := { program := "ytmfeocogkmmocaa", sum := "6b06a60b5a4de9401b0f022538870c54aec2a4fe2942841aa6a1acdb1c1d06d7", func := "loop.example/depkernel/laws.FnExactStepTerm", spec := "fnExactStepTerm", unfollowed := true, recurses := true, loops := true, plainKeys := false, apart := false }
def FnExactStepTermSaid : Prop := fnExactStepTermRow.holds Try.pinned (OpenSpec.ofChange fnExactStepTermSpec)

/-- ITS FALSE NEIGHBOUR: 'it returns false'. Refute it at one input. -/
def fnExactStepTermWrong : ChangeSpec := { name := "fnExactStepTerm", fn := fun _ => fun
  | [d] => { results := [.lit (.bool false)], args := [d] }
  | _ => none }
def FnExactStepTermWrongFalsely : Prop := fnExactStepTermRow.holds Try.pinned (OpenSpec.ofChange fnExactStepTermWrong)

/-- 'laws.FnExactStepInner': WHATEVER THE INPUT: true; the input reads as it did. -/
def fnExactStepInnerSpec : ChangeSpec := { name := "fnExactStepInner", fn := fun _ => fun
  | [d] => { results := [.lit (.bool true)], args := [d] }
  | _ => none }
def fnExactStepInnerRow : OpenClaim := { program := "ytmfeocogkmmocaa", sum := "6b06a60b5a4de9401b0f022538870c54aec2a4fe2942841aa6a1acdb1c1d06d7", func := "loop.example/depkernel/laws.FnExactStepInner", spec := "fnExactStepInner", unfollowed := true, recurses := true, loops := true, plainKeys := false, apart := false }
def FnExactStepInnerSaid : Prop := fnExactStepInnerRow.holds Try.pinned (OpenSpec.ofChange fnExactStepInnerSpec)

/-- ITS FALSE NEIGHBOUR: 'it returns false'. Refute it at one input. -/
def fnExactStepInnerWrong : ChangeSpec := { name := "fnExactStepInner", fn := fun _ => fun
  | [d] => { results := [.lit (.bool false)], args := [d] }
  | _ => none }
def FnExactStepInnerWrongFalsely : Prop := fnExactStepInnerRow.holds Try.pinned (OpenSpec.ofChange fnExactStepInnerWrong)

/-- 'laws.FnExactHeadNormal': WHATEVER THE INPUT: true; the input reads as it did. -/
def fnExactHeadNormalSpec : ChangeSpec := { name := "fnExactHeadNormal", fn := fun _ => fun
  | [d1, d2] => { results := [.lit (.bool true)], args := [d1, d2] }
  | _ => none }
def fnExactHeadNormalRow : OpenClaim := { program := "ytmfeocogkmmocaa", sum := "6b06a60b5a4de9401b0f022538870c54aec2a4fe2942841aa6a1acdb1c1d06d7", func := "loop.example/depkernel/laws.FnExactHeadNormal", spec := "fnExactHeadNormal", unfollowed := true, recurses := true, loops := true, plainKeys := false, apart := false }
def FnExactHeadNormalSaid : Prop := fnExactHeadNormalRow.holds Try.pinned (OpenSpec.ofChange fnExactHeadNormalSpec)

/-- ITS FALSE NEIGHBOUR: 'it returns false'. Refute it at one input. -/
def fnExactHeadNormalWrong : ChangeSpec := { name := "fnExactHeadNormal", fn := fun _ => fun
  | [d1, d2] => { results := [.lit (.bool false)], args := [d1, d2] }
  | _ => none }
def FnExactHeadNormalWrongFalsely : Prop := fnExactHeadNormalRow.holds Try.pinned (OpenSpec.ofChange fnExactHeadNormalWrong)

/-- 'laws.FnExactReduceSteps': WHATEVER THE INPUT: true; the input reads as it did. -/
def fnExactReduceStepsSpec : ChangeSpec := { name := "fnExactReduceSteps", fn := fun _ => fun
  | [d1, d2] => { results := [.lit (.bool true)], args := [d1, d2] }
  | _ => none }
def fnExactReduceStepsRow : OpenClaim := { program := "ytmfeocogkmmocaa", sum := "6b06a60b5a4de9401b0f022538870c54aec2a4fe2942841aa6a1acdb1c1d06d7", func := "loop.example/depkernel/laws.FnExactReduceSteps", spec := "fnExactReduceSteps", unfollowed := true, recurses := true, loops := true, plainKeys := false, apart := false }
def FnExactReduceStepsSaid : Prop := fnExactReduceStepsRow.holds Try.pinned (OpenSpec.ofChange fnExactReduceStepsSpec)

/-- ITS FALSE NEIGHBOUR: 'it returns false'. Refute it at one input. -/
def fnExactReduceStepsWrong : ChangeSpec := { name := "fnExactReduceSteps", fn := fun _ => fun
  | [d1, d2] => { results := [.lit (.bool false)], args := [d1, d2] }
  | _ => none }
def FnExactReduceStepsWrongFalsely : Prop := fnExactReduceStepsRow.holds Try.pinned (OpenSpec.ofChange fnExactReduceStepsWrong)

/-- 'laws.FnExactTraceTerm': WHATEVER THE INPUT: true; the input reads as it did. -/
def fnExactTraceTermSpec : ChangeSpec := { name := "fnExactTraceTerm", fn := fun _ => fun
  | [d] => { results := [.lit (.bool true)], args := [d] }
  | _ => none }
def fnExactTraceTermRow : OpenClaim := { program := "ytmfeocogkmmocaa", sum := "6b06a60b5a4de9401b0f022538870c54aec2a4fe2942841aa6a1acdb1c1d06d7", func := "loop.example/depkernel/laws.FnExactTraceTerm", spec := "fnExactTraceTerm", unfollowed := true, recurses := true, loops := true, plainKeys := false, apart := false }
def FnExactTraceTermSaid : Prop := fnExactTraceTermRow.holds Try.pinned (OpenSpec.ofChange fnExactTraceTermSpec)

/-- ITS FALSE NEIGHBOUR: 'it returns false'. Refute it at one input. -/
def fnExactTraceTermWrong : ChangeSpec := { name := "fnExactTraceTerm", fn := fun _ => fun
  | [d] => { results := [.lit (.bool false)], args := [d] }
  | _ => none }
def FnExactTraceTermWrongFalsely : Prop := fnExactTraceTermRow.holds Try.pinned (OpenSpec.ofChange fnExactTraceTermWrong)

/-- 'laws.FnExactTermSame': WHATEVER THE INPUT: true; the input reads as it did. -/
def fnExactTermSameSpec : ChangeSpec := { name := "fnExactTermSame", fn := fun _ => fun
  | [d1, d2] => { results := [.lit (.bool true)], args := [d1, d2] }
  | _ => none }
def fnExactTermSameRow : OpenClaim := { program := "ytmfeocogkmmocaa", sum := "6b06a60b5a4de9401b0f022538870c54aec2a4fe2942841aa6a1acdb1c1d06d7", func := "loop.example/depkernel/laws.FnExactTermSame", spec := "fnExactTermSame", unfollowed := true, recurses := true, loops := true, plainKeys := false, apart := false }
def FnExactTermSameSaid : Prop := fnExactTermSameRow.holds Try.pinned (OpenSpec.ofChange fnExactTermSameSpec)

/-- ITS FALSE NEIGHBOUR: 'it returns false'. Refute it at one input. -/
def fnExactTermSameWrong : ChangeSpec := { name := "fnExactTermSame", fn := fun _ => fun
  | [d1, d2] => { results := [.lit (.bool false)], args := [d1, d2] }
  | _ => none }
def FnExactTermSameWrongFalsely : Prop := fnExactTermSameRow.holds Try.pinned (OpenSpec.ofChange fnExactTermSameWrong)

/-- 'laws.FnTermSame': WHATEVER THE INPUT: true; the input reads as it did. -/
def fnTermSameSpec : ChangeSpec := { name := "fnTermSame", fn := fun _ => fun
  | [d] => { results := [.lit (.bool true)], args := [d] }
  | _ => none }
def fnTermSameRow : OpenClaim := { program := "ytmfeocogkmmocaa", sum := "6b06a60b5a4de9401b0f022538870c54aec2a4fe2942841aa6a1acdb1c1d06d7", func := "loop.example/depkernel/laws.FnTermSame", spec := "fnTermSame", unfollowed := true, recurses := true, plainKeys := false, apart := false }
def FnTermSameSaid : Prop := fnTermSameRow.holds Try.pinned (OpenSpec.ofChange fnTermSameSpec)

/-- ITS FALSE NEIGHBOUR: 'it returns false'. Refute it at one input. -/
def fnTermSameWrong : ChangeSpec := { name := "fnTermSame", fn := fun _ => fun
  | [d] => { results := [.lit (.bool false)], args := [d] }
  | _ => none }
def FnTermSameWrongFalsely : Prop := fnTermSameRow.holds Try.pinned (OpenSpec.ofChange fnTermSameWrong)

/-- 'laws.FnExactFormatTerm': WHATEVER THE INPUT: true; the input reads as it did. -/
def fnExactFormatTermSpec : ChangeSpec := { name := "fnExactFormatTerm", fn := fun _ => fun
  | [d] => { results := [.lit (.bool true)], args := [d] }
  | _ => none }
def fnExactFormatTermRow : OpenClaim := { program := "ytmfeocogkmmocaa", sum := "6b06a60b5a4de9401b0f022538870c54aec2a4fe2942841aa6a1acdb1c1d06d7", func := "loop.example/depkernel/laws.FnExactFormatTerm", spec := "fnExactFormatTerm", unfollowed := true, recurses := true, loops := true, plainKeys := false, apart := false }
def FnExactFormatTermSaid : Prop := fnExactFormatTermRow.holds Try.pinned (OpenSpec.ofChange fnExactFormatTermSpec)

/-- ITS FALSE NEIGHBOUR: 'it returns false'. Refute it at one input. -/
def fnExactFormatTermWrong : ChangeSpec := { name := "fnExactFormatTerm", fn := fun _ => fun
  | [d] => { results := [.lit (.bool false)], args := [d] }
  | _ => none }
def FnExactFormatTermWrongFalsely : Prop := fnExactFormatTermRow.holds Try.pinned (OpenSpec.ofChange fnExactFormatTermWrong)

/-- 'laws.FnExactParseTerm': WHATEVER THE INPUT: true; the input reads as it did. -/
def fnExactParseTermSpec : ChangeSpec := { name := "fnExactParseTerm", fn := fun _ => fun
  | [d] => { results := [.lit (.bool true)], args := [d] }
  | _ => none }
def fnExactParseTermRow : OpenClaim := { program := "ytmfeocogkmmocaa", sum := "6b06a60b5a4de9401b0f022538870c54aec2a4fe2942841aa6a1acdb1c1d06d7", func := "loop.example/depkernel/laws.FnExactParseTerm", spec := "fnExactParseTerm", recurses := true, plainKeys := false, apart := false }
def FnExactParseTermSaid : Prop := fnExactParseTermRow.holds Try.pinned (OpenSpec.ofChange fnExactParseTermSpec)

/-- ITS FALSE NEIGHBOUR: 'it returns false'. Refute it at one input. -/
def fnExactParseTermWrong : ChangeSpec := { name := "fnExactParseTerm", fn := fun _ => fun
  | [d] => { results := [.lit (.bool false)], args := [d] }
  | _ => none }
def FnExactParseTermWrongFalsely : Prop := fnExactParseTermRow.holds Try.pinned (OpenSpec.ofChange fnExactParseTermWrong)

/- THE SECOND FORM. 'bulk': how many values and letters a reading holds, each counted each time it is reached (what is shared counts as often as it is met; a slice's spare places count too). A statement '..UptoSaid' is the law's where the arguments, and the package variables that the reading takes, are together of bulk at most 1048576: NARROWER than '..Said'. Prove '..Said' where nothing that the law and all that it calls make is longer than what came in: it says more and counts as full. Else prove '..UptoSaid'. A law counts once. -/
mutual
def uptoBulk {H : Type} : DataW H → Nat
  | .lit (.string bytes) => bytes.length + 1
  | .lit _ => 1
  | .nil => 1
  | .ptr d => uptoBulk d + 1
  | .slice elems spare => uptoBulkAll elems + uptoBulkAll spare + 1
  | .agg parts => uptoBulkAll parts + 1
  | .iface _ d => uptoBulk d + 1
  | .map entries => uptoBulkEntries entries + 1
  | .held _ => 1
def uptoBulkAll {H : Type} : List (DataW H) → Nat
  | [] => 0
  | d :: r => uptoBulk d + uptoBulkAll r
def uptoBulkEntries {H : Type} : List (Lit × DataW H) → Nat
  | [] => 0
  | x :: r => uptoBulkEntry x + uptoBulkEntries r
def uptoBulkEntry {H : Type} : Lit × DataW H → Nat
  | (.string bytes, d) => bytes.length + uptoBulk d + 1
  | (_, d) => uptoBulk d + 1
 end
def uptoSmall : (H : Type) → List (DataW H) → Bool := fun _ ds => decide (uptoBulkAll ds ≤ 1048576)
def OpenSpec.upto (s : _root_.Go.ChangeSpec) : _root_.Go.OpenSpec := { _root_.Go.OpenSpec.ofChange s with cond := some uptoSmall }

/-- 'laws.FnExactStepTerm', WHERE WHAT IT READS IS OF BULK AT MOST 1048576: true; the input reads as it did. -/
def fnExactStepTermUptoRow : OpenClaim := { program := "ytmfeocogkmmocaa", sum := "6b06a60b5a4de9401b0f022538870c54aec2a4fe2942841aa6a1acdb1c1d06d7", func := "loop.example/depkernel/laws.FnExactStepTerm", spec := "fnExactStepTerm", unfollowed := true, recurses := true, loops := true, plainKeys := false, apart := false, narrowed := true }
def FnExactStepTermUptoSaid : Prop := fnExactStepTermUptoRow.holds Try.pinned (OpenSpec.upto fnExactStepTermSpec)

/-- 'laws.FnExactStepInner', WHERE WHAT IT READS IS OF BULK AT MOST 1048576: true; the input reads as it did. -/
def fnExactStepInnerUptoRow : OpenClaim := { program := "ytmfeocogkmmocaa", sum := "6b06a60b5a4de9401b0f022538870c54aec2a4fe2942841aa6a1acdb1c1d06d7", func := "loop.example/depkernel/laws.FnExactStepInner", spec := "fnExactStepInner", unfollowed := true, recurses := true, loops := true, plainKeys := false, apart := false, narrowed := true }
def FnExactStepInnerUptoSaid : Prop := fnExactStepInnerUptoRow.holds Try.pinned (OpenSpec.upto fnExactStepInnerSpec)

/-- 'laws.FnExactHeadNormal', WHERE WHAT IT READS IS OF BULK AT MOST 1048576: true; the input reads as it did. -/
def fnExactHeadNormalUptoRow : OpenClaim := { program := "ytmfeocogkmmocaa", sum := "6b06a60b5a4de9401b0f022538870c54aec2a4fe2942841aa6a1acdb1c1d06d7", func := "loop.example/depkernel/laws.FnExactHeadNormal", spec := "fnExactHeadNormal", unfollowed := true, recurses := true, loops := true, plainKeys := false, apart := false, narrowed := true }
def FnExactHeadNormalUptoSaid : Prop := fnExactHeadNormalUptoRow.holds Try.pinned (OpenSpec.upto fnExactHeadNormalSpec)

/-- 'laws.FnExactReduceSteps', WHERE WHAT IT READS IS OF BULK AT MOST 1048576: true; the input reads as it did. -/
def fnExactReduceStepsUptoRow : OpenClaim := { program := "ytmfeocogkmmocaa", sum := "6b06a60b5a4de9401b0f022538870c54aec2a4fe2942841aa6a1acdb1c1d06d7", func := "loop.example/depkernel/laws.FnExactReduceSteps", spec := "fnExactReduceSteps", unfollowed := true, recurses := true, loops := true, plainKeys := false, apart := false, narrowed := true }
def FnExactReduceStepsUptoSaid : Prop := fnExactReduceStepsUptoRow.holds Try.pinned (OpenSpec.upto fnExactReduceStepsSpec)

/-- 'laws.FnExactTraceTerm', WHERE WHAT IT READS IS OF BULK AT MOST 1048576: true; the input reads as it did. -/
def fnExactTraceTermUptoRow : OpenClaim := { program := "ytmfeocogkmmocaa", sum := "6b06a60b5a4de9401b0f022538870c54aec2a4fe2942841aa6a1acdb1c1d06d7", func := "loop.example/depkernel/laws.FnExactTraceTerm", spec := "fnExactTraceTerm", unfollowed := true, recurses := true, loops := true, plainKeys := false, apart := false, narrowed := true }
def FnExactTraceTermUptoSaid : Prop := fnExactTraceTermUptoRow.holds Try.pinned (OpenSpec.upto fnExactTraceTermSpec)

/-- 'laws.FnExactTermSame', WHERE WHAT IT READS IS OF BULK AT MOST 1048576: true; the input reads as it did. -/
def fnExactTermSameUptoRow : OpenClaim := { program := "ytmfeocogkmmocaa", sum := "6b06a60b5a4de9401b0f022538870c54aec2a4fe2942841aa6a1acdb1c1d06d7", func := "loop.example/depkernel/laws.FnExactTermSame", spec := "fnExactTermSame", unfollowed := true, recurses := true, loops := true, plainKeys := false, apart := false, narrowed := true }
def FnExactTermSameUptoSaid : Prop := fnExactTermSameUptoRow.holds Try.pinned (OpenSpec.upto fnExactTermSameSpec)

/-- 'laws.FnTermSame', WHERE WHAT IT READS IS OF BULK AT MOST 1048576: true; the input reads as it did. -/
def fnTermSameUptoRow : OpenClaim := { program := "ytmfeocogkmmocaa", sum := "6b06a60b5a4de9401b0f022538870c54aec2a4fe2942841aa6a1acdb1c1d06d7", func := "loop.example/depkernel/laws.FnTermSame", spec := "fnTermSame", unfollowed := true, recurses := true, plainKeys := false, apart := false, narrowed := true }
def FnTermSameUptoSaid : Prop := fnTermSameUptoRow.holds Try.pinned (OpenSpec.upto fnTermSameSpec)

/-- 'laws.FnExactFormatTerm', WHERE WHAT IT READS IS OF BULK AT MOST 1048576: true; the input reads as it did. -/
def fnExactFormatTermUptoRow : OpenClaim := { program := "ytmfeocogkmmocaa", sum := "6b06a60b5a4de9401b0f022538870c54aec2a4fe2942841aa6a1acdb1c1d06d7", func := "loop.example/depkernel/laws.FnExactFormatTerm", spec := "fnExactFormatTerm", unfollowed := true, recurses := true, loops := true, plainKeys := false, apart := false, narrowed := true }
def FnExactFormatTermUptoSaid : Prop := fnExactFormatTermUptoRow.holds Try.pinned (OpenSpec.upto fnExactFormatTermSpec)

/-- 'laws.FnExactParseTerm', WHERE WHAT IT READS IS OF BULK AT MOST 1048576: true; the input reads as it did. -/
def fnExactParseTermUptoRow : OpenClaim := { program := "ytmfeocogkmmocaa", sum := "6b06a60b5a4de9401b0f022538870c54aec2a4fe2942841aa6a1acdb1c1d06d7", func := "loop.example/depkernel/laws.FnExactParseTerm", spec := "fnExactParseTerm", recurses := true, plainKeys := false, apart := false, narrowed := true }
def FnExactParseTermUptoSaid : Prop := fnExactParseTermUptoRow.holds Try.pinned (OpenSpec.upto fnExactParseTermSpec)

end Rows
end Go.Proofs.Ytmfeocogkmmocaa
