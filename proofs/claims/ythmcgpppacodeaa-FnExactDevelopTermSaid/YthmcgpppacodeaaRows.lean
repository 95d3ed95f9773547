/-
  NARROWER THAN 'FOR EVERY INPUT', by the rows' own cells (each row's printed sentence says how): FnExactContractTerm: loops · FnExactStepTerm: loops · FnExactStepInner: loops · FnExactNormalTerm: loops · FnExactHeadNormal: loops · FnExactReduceSteps: loops · FnExactCountRedexes: loops · FnExactTraceTerm: loops · FnExactDevelopTerm: loops.
  DERIVED. THE GIVEN ROWS OF THIS SEAT. 9 by the template 'for every input the law returns true; each argument reads behind the call as it read before'; 0 by the template 'total and deterministic' (their statements: YthmcgpppacodeaaTotals.lean).
  GIVEN WITH THE SEED: the statements are not yours to turn. If you find one false, say at which input.
  Laid BY PROGRAM, IN A SANDBOX (cutbox-rows.mjs): the forced cells as the released guide's own fill.sh prints them over the translation bd26f4f0d8e6e122… (all of the seat's roots in one cut). By AI agents, Wed Nov 11 2026. No macro, syntax, notation, axiom, sorry.
-/
import Derived.Test.YthmcgpppacodeaaChecked
import GoSem.Claim
import GoSem.ClaimJoined
import GoSem.ClaimMapViews
import Derived.JoinedTies
import Derived.KernelRfl
namespace Go.Proofs.Ythmcgpppacodeaa
/- THE CELL 'sum', in the pinned program and in every row, IS THE sha256 OF THE DUMP (.gsa) THAT YthmcgpppacodeaaProg.lean LOADS. Nothing in Lean hashes anything: it is a label: what it is worth is what the hold of that sum in a sandbox is worth. -/
noncomputable def Try.pinned : Pinned := { name := "ythmcgpppacodeaa", sum := "bd26f4f0d8e6e12273c2ba0d9fa7ae2cd96054b22d90e12f586568341a6564ca", checked := Try.checked }
namespace Rows
def none {H : Type} : Left H := { results := [], args := [] }

/-- 'laws.FnExactContractTerm': WHATEVER THE INPUT: true; the input reads as it did. -/
def fnExactContractTermSpec : ChangeSpec := { name := "fnExactContractTerm", fn := fun _ => fun
  | [d] => { results := [.lit (.bool true)], args := [d] }
  | _ => none }
def fnExactContractTermRow : OpenClaim := { program := "ythmcgpppacodeaa", sum := "bd26f4f0d8e6e12273c2ba0d9fa7ae2cd96054b22d90e12f586568341a6564ca", func := "loop.example/depkernel/laws.FnExactContractTerm", spec := "fnExactContractTerm", unfollowed := true, recurses := true, loops := true, apart := false }
def FnExactContractTermSaid : Prop := fnExactContractTermRow.holds Try.pinned (OpenSpec.ofChange fnExactContractTermSpec)

/-- ITS FALSE NEIGHBOUR: 'it returns false'. Refute it at one input. -/
def fnExactContractTermWrong : ChangeSpec := { name := "fnExactContractTerm", fn := fun _ => fun
  | [d] => { results := [.lit (.bool false)], args := [d] }
  | _ => none }
def FnExactContractTermWrongFalsely : Prop := fnExactContractTermRow.holds Try.pinned (OpenSpec.ofChange fnExactContractTermWrong)

/-- 'laws.FnExactStepTerm': WHATEVER THE INPUT: true; the input reads as it did. -/
def fnExactStepTermSpec : ChangeSpec := { name := "fnExactStepTerm", fn := fun _ => fun
  | [d] => { results := [.lit (.bool true)], args := [d] }
  | _ => none }
def fnExactStepTermRow : OpenClaim := { program := "ythmcgpppacodeaa", sum := "bd26f4f0d8e6e12273c2ba0d9fa7ae2cd96054b22d90e12f586568341a6564ca", func := "loop.example/depkernel/laws.FnExactStepTerm", spec := "fnExactStepTerm", unfollowed := true, recurses := true, loops := true, apart := false }
def FnExactStepTermSaid : Prop := fnExactStepTermRow.holds Try.pinned (OpenSpec.ofChange fnExactStepTermSpec)

/-- ITS FALSE NEIGHBOUR: 'it returns false'. Refute it at one input. -/
def fnExactStepTermWrong : ChangeSpec := { name := "fnExactStepTerm", fn := fun _ => fun
  | [d] => { results := [.lit (.bool false)], args := [d] }
  | _ => none }
def FnExactStepTermWrongFalsely : Prop := fnExactStepTermRow.holds Try.pinned (OpenSpec.ofChange fnExactStepTermWrong)

/-- 'laws.FnExactStepInner': WHATEVER THE INPUT: true; the input reads as it did. -/
def fnExactStepInnerSpec : ChangeSpec := { name := "fnExactStepInner", fn := fun _ => fun
  | [d] => { results := [.lit (.bool true)], args := [d] }
  | _ => none }
def fnExactStepInnerRow : OpenClaim := { program := "ythmcgpppacodeaa", sum := "bd26f4f0d8e6e12273c2ba0d9fa7ae2cd96054b22d90e12f586568341a6564ca", func := "loop.example/depkernel/laws.FnExactStepInner", spec := "fnExactStepInner", unfollowed := true, recurses := true, loops := true, apart := false }
def FnExactStepInnerSaid : Prop := fnExactStepInnerRow.holds Try.pinned (OpenSpec.ofChange fnExactStepInnerSpec)

/-- ITS FALSE NEIGHBOUR: 'it returns false'. Refute it at one input. -/
def fnExactStepInnerWrong : ChangeSpec := { name := "fnExactStepInner", fn := fun _ => fun
  | [d] => { results := [.lit (.bool false)], args := [d] }
  | _ => none }
def FnExactStepInnerWrongFalsely : Prop := fnExactStepInnerRow.holds Try.pinned (OpenSpec.ofChange fnExactStepInnerWrong)

/-- 'laws.FnExactNormalTerm': WHATEVER THE INPUT: true; the input reads as it did. -/
def fnExactNormalTermSpec : ChangeSpec := { name := "fnExactNormalTerm", fn := fun _ => fun
  | [d] => { results := [.lit (.bool true)], args := [d] }
  | _ => none }
def fnExactNormalTermRow : OpenClaim := { program := "ythmcgpppacodeaa", sum := "bd26f4f0d8e6e12273c2ba0d9fa7ae2cd96054b22d90e12f586568341a6564ca", func := "loop.example/depkernel/laws.FnExactNormalTerm", spec := "fnExactNormalTerm", unfollowed := true, recurses := true, loops := true, apart := false }
def FnExactNormalTermSaid : Prop := fnExactNormalTermRow.holds Try.pinned (OpenSpec.ofChange fnExactNormalTermSpec)

/-- ITS FALSE NEIGHBOUR: 'it returns false'. Refute it at one input. -/
def fnExactNormalTermWrong : ChangeSpec := { name := "fnExactNormalTerm", fn := fun _ => fun
  | [d] => { results := [.lit (.bool false)], args := [d] }
  | _ => none }
def FnExactNormalTermWrongFalsely : Prop := fnExactNormalTermRow.holds Try.pinned (OpenSpec.ofChange fnExactNormalTermWrong)

/-- 'laws.FnExactHeadNormal': WHATEVER THE INPUT: true; the input reads as it did. -/
def fnExactHeadNormalSpec : ChangeSpec := { name := "fnExactHeadNormal", fn := fun _ => fun
  | [d1, d2] => { results := [.lit (.bool true)], args := [d1, d2] }
  | _ => none }
def fnExactHeadNormalRow : OpenClaim := { program := "ythmcgpppacodeaa", sum := "bd26f4f0d8e6e12273c2ba0d9fa7ae2cd96054b22d90e12f586568341a6564ca", func := "loop.example/depkernel/laws.FnExactHeadNormal", spec := "fnExactHeadNormal", unfollowed := true, recurses := true, loops := true, apart := false }
def FnExactHeadNormalSaid : Prop := fnExactHeadNormalRow.holds Try.pinned (OpenSpec.ofChange fnExactHeadNormalSpec)

/-- ITS FALSE NEIGHBOUR: 'it returns false'. Refute it at one input. -/
def fnExactHeadNormalWrong : ChangeSpec := { name := "fnExactHeadNormal", fn := fun _ => fun
  | [d1, d2] => { results := [.lit (.bool false)], args := [d1, d2] }
  | _ => none }
def FnExactHeadNormalWrongFalsely : Prop := fnExactHeadNormalRow.holds Try.pinned (OpenSpec.ofChange fnExactHeadNormalWrong)

/-- 'laws.FnExactReduceSteps': WHATEVER THE INPUT: true; the input reads as it did. -/
def fnExactReduceStepsSpec : ChangeSpec := { name := "fnExactReduceSteps", fn := fun _ => fun
  | [d1, d2] => { results := [.lit (.bool true)], args := [d1, d2] }
  | _ => none }
def fnExactReduceStepsRow : OpenClaim := { program := "ythmcgpppacodeaa", sum := "bd26f4f0d8e6e12273c2ba0d9fa7ae2cd96054b22d90e12f586568341a6564ca", func := "loop.example/depkernel/laws.FnExactReduceSteps", spec := "fnExactReduceSteps", unfollowed := true, recurses := true, loops := true, apart := false }
def FnExactReduceStepsSaid : Prop := fnExactReduceStepsRow.holds Try.pinned (OpenSpec.ofChange fnExactReduceStepsSpec)

/-- ITS FALSE NEIGHBOUR: 'it returns false'. Refute it at one input. -/
def fnExactReduceStepsWrong : ChangeSpec := { name := "fnExactReduceSteps", fn := fun _ => fun
  | [d1, d2] => { results := [.lit (.bool false)], args := [d1, d2] }
  | _ => none }
def FnExactReduceStepsWrongFalsely : Prop := fnExactReduceStepsRow.holds Try.pinned (OpenSpec.ofChange fnExactReduceStepsWrong)

/-- 'laws.FnExactCountRedexes': WHATEVER THE INPUT: true; the input reads as it did. -/
def fnExactCountRedexesSpec : ChangeSpec := { name := "fnExactCountRedexes", fn := fun _ => fun
  | [d] => { results := [.lit (.bool true)], args := [d] }
  | _ => none }
def fnExactCountRedexesRow : OpenClaim := { program := "ythmcgpppacodeaa", sum := "bd26f4f0d8e6e12273c2ba0d9fa7ae2cd96054b22d90e12f586568341a6564ca", func := "loop.example/depkernel/laws.FnExactCountRedexes", spec := "fnExactCountRedexes", unfollowed := true, recurses := true, loops := true, apart := false }
def FnExactCountRedexesSaid : Prop := fnExactCountRedexesRow.holds Try.pinned (OpenSpec.ofChange fnExactCountRedexesSpec)

/-- ITS FALSE NEIGHBOUR: 'it returns false'. Refute it at one input. -/
def fnExactCountRedexesWrong : ChangeSpec := { name := "fnExactCountRedexes", fn := fun _ => fun
  | [d] => { results := [.lit (.bool false)], args := [d] }
  | _ => none }
def FnExactCountRedexesWrongFalsely : Prop := fnExactCountRedexesRow.holds Try.pinned (OpenSpec.ofChange fnExactCountRedexesWrong)

/-- 'laws.FnExactTraceTerm': WHATEVER THE INPUT: true; the input reads as it did. -/
def fnExactTraceTermSpec : ChangeSpec := { name := "fnExactTraceTerm", fn := fun _ => fun
  | [d] => { results := [.lit (.bool true)], args := [d] }
  | _ => none }
def fnExactTraceTermRow : OpenClaim := { program := "ythmcgpppacodeaa", sum := "bd26f4f0d8e6e12273c2ba0d9fa7ae2cd96054b22d90e12f586568341a6564ca", func := "loop.example/depkernel/laws.FnExactTraceTerm", spec := "fnExactTraceTerm", unfollowed := true, recurses := true, loops := true, apart := false }
def FnExactTraceTermSaid : Prop := fnExactTraceTermRow.holds Try.pinned (OpenSpec.ofChange fnExactTraceTermSpec)

/-- ITS FALSE NEIGHBOUR: 'it returns false'. Refute it at one input. -/
def fnExactTraceTermWrong : ChangeSpec := { name := "fnExactTraceTerm", fn := fun _ => fun
  | [d] => { results := [.lit (.bool false)], args := [d] }
  | _ => none }
def FnExactTraceTermWrongFalsely : Prop := fnExactTraceTermRow.holds Try.pinned (OpenSpec.ofChange fnExactTraceTermWrong)

/-- 'laws.FnExactDevelopTerm': WHATEVER THE INPUT: true; the input reads as it did. -/
def fnExactDevelopTermSpec : ChangeSpec := { name := "fnExactDevelopTerm", fn := fun _ => fun
  | [d] => { results := [.lit (.bool true)], args := [d] }
  | _ => none }
def fnExactDevelopTermRow : OpenClaim := { program := "ythmcgpppacodeaa", sum := "bd26f4f0d8e6e12273c2ba0d9fa7ae2cd96054b22d90e12f586568341a6564ca", func := "loop.example/depkernel/laws.FnExactDevelopTerm", spec := "fnExactDevelopTerm", unfollowed := true, recurses := true, loops := true, apart := false }
def FnExactDevelopTermSaid : Prop := fnExactDevelopTermRow.holds Try.pinned (OpenSpec.ofChange fnExactDevelopTermSpec)

/-- ITS FALSE NEIGHBOUR: 'it returns false'. Refute it at one input. -/
def fnExactDevelopTermWrong : ChangeSpec := { name := "fnExactDevelopTerm", fn := fun _ => fun
  | [d] => { results := [.lit (.bool false)], args := [d] }
  | _ => none }
def FnExactDevelopTermWrongFalsely : Prop := fnExactDevelopTermRow.holds Try.pinned (OpenSpec.ofChange fnExactDevelopTermWrong)

/- THE SECOND FORM. 'bulk': how many values and letters a reading holds, each counted each time it is reached (what is shared counts as often as it is met; a slice's spare places count too). A statement '..UptoSaid' is the law's where the arguments, and the package variables that the reading takes, are together of bulk at most 1048576: NARROWER than '..Said'. Prove '..Said' where nothing that the law and all that it calls make is longer than what came in: it says more and counts as full. Else prove '..UptoSaid'. A law counts once. -/
mutual
def uptoBulk {H : Type} : DataW H → Nat
  | .lit (.string bytes) => bytes.length + 1
  | .lit _ => 1
  | .nil => 1
  | .ptr d => uptoBulk d + 1
  | .slice elems spare => uptoBulkAll elems + uptoBulkAll spare + 1
  | .agg parts => uptoBulkAll parts + 1
  | .iface _ d => uptoBulk d + 1
  | .map entries => uptoBulkEntries entries + 1
  | .held _ => 1
def uptoBulkAll {H : Type} : List (DataW H) → Nat
  | [] => 0
  | d :: r => uptoBulk d + uptoBulkAll r
def uptoBulkEntries {H : Type} : List (Lit × DataW H) → Nat
  | [] => 0
  | x :: r => uptoBulkEntry x + uptoBulkEntries r
def uptoBulkEntry {H : Type} : Lit × DataW H → Nat
  | (.string bytes, d) => bytes.length + uptoBulk d + 1
  | (_, d) => uptoBulk d + 1
 end
def uptoSmall : (H : Type) → List (DataW H) → Bool := fun _ ds => decide (uptoBulkAll ds ≤ 1048576)
def OpenSpec.upto (s : _root_.Go.ChangeSpec) : _root_.Go.OpenSpec := { _root_.Go.OpenSpec.ofChange s with cond := some uptoSmall }

/-- 'laws.FnExactContractTerm', WHERE WHAT IT READS IS OF BULK AT MOST 1048576: true; the input reads as it did. -/
def fnExactContractTermUptoRow : OpenClaim := { program := "ythmcgpppacodeaa", sum := "bd26f4f0d8e6e12273c2ba0d9fa7ae2cd96054b22d90e12f586568341a6564ca", func := "loop.example/depkernel/laws.FnExactContractTerm", spec := "fnExactContractTerm", unfollowed := true, recurses := true, loops := true, apart := false, narrowed := true }
def FnExactContractTermUptoSaid : Prop := fnExactContractTermUptoRow.holds Try.pinned (OpenSpec.upto fnExactContractTermSpec)

/-- 'laws.FnExactStepTerm', WHERE WHAT IT READS IS OF BULK AT MOST 1048576: true; the input reads as it did. -/
def fnExactStepTermUptoRow : OpenClaim := { program := "ythmcgpppacodeaa", sum := "bd26f4f0d8e6e12273c2ba0d9fa7ae2cd96054b22d90e12f586568341a6564ca", func := "loop.example/depkernel/laws.FnExactStepTerm", spec := "fnExactStepTerm", unfollowed := true, recurses := true, loops := true, apart := false, narrowed := true }
def FnExactStepTermUptoSaid : Prop := fnExactStepTermUptoRow.holds Try.pinned (OpenSpec.upto fnExactStepTermSpec)

/-- 'laws.FnExactStepInner', WHERE WHAT IT READS IS OF BULK AT MOST 1048576: true; the input reads as it did. -/
def fnExactStepInnerUptoRow : OpenClaim := { program := "ythmcgpppacodeaa", sum := "bd26f4f0d8e6e12273c2ba0d9fa7ae2cd96054b22d90e12f586568341a6564ca", func := "loop.example/depkernel/laws.FnExactStepInner", spec := "fnExactStepInner", unfollowed := true, recurses := true, loops := true, apart := false, narrowed := true }
def FnExactStepInnerUptoSaid : Prop := fnExactStepInnerUptoRow.holds Try.pinned (OpenSpec.upto fnExactStepInnerSpec)

/-- 'laws.FnExactNormalTerm', WHERE WHAT IT READS IS OF BULK AT MOST 1048576: true; the input reads as it did. -/
def fnExactNormalTermUptoRow : OpenClaim := { program := "ythmcgpppacodeaa", sum := "bd26f4f0d8e6e12273c2ba0d9fa7ae2cd96054b22d90e12f586568341a6564ca", func := "loop.example/depkernel/laws.FnExactNormalTerm", spec := "fnExactNormalTerm", unfollowed := true, recurses := true, loops := true, apart := false, narrowed := true }
def FnExactNormalTermUptoSaid : Prop := fnExactNormalTermUptoRow.holds Try.pinned (OpenSpec.upto fnExactNormalTermSpec)

/-- 'laws.FnExactHeadNormal', WHERE WHAT IT READS IS OF BULK AT MOST 1048576: true; the input reads as it did. -/
def fnExactHeadNormalUptoRow : OpenClaim := { program := "ythmcgpppacodeaa", sum := "bd26f4f0d8e6e12273c2ba0d9fa7ae2cd96054b22d90e12f586568341a6564ca", func := "loop.example/depkernel/laws.FnExactHeadNormal", spec := "fnExactHeadNormal", unfollowed := true, recurses := true, loops := true, apart := false, narrowed := true }
def FnExactHeadNormalUptoSaid : Prop := fnExactHeadNormalUptoRow.holds Try.pinned (OpenSpec.upto fnExactHeadNormalSpec)

/-- 'laws.FnExactReduceSteps', WHERE WHAT IT READS IS OF BULK AT MOST 1048576: true; the input reads as it did. -/
def fnExactReduceStepsUptoRow : OpenClaim := { program := "ythmcgpppacodeaa", sum := "bd26f4f0d8e6e12273c2ba0d9fa7ae2cd96054b22d90e12f586568341a6564ca", func := "loop.example/depkernel/laws.FnExactReduceSteps", spec := "fnExactReduceSteps", unfollowed := true, recurses := true, loops := true, apart := false, narrowed := true }
def FnExactReduceStepsUptoSaid : Prop := fnExactReduceStepsUptoRow.holds Try.pinned (OpenSpec.upto fnExactReduceStepsSpec)

/-- 'laws.FnExactCountRedexes', WHERE WHAT IT READS IS OF BULK AT MOST 1048576: true; the input reads as it did. -/
def fnExactCountRedexesUptoRow : OpenClaim := { program := "ythmcgpppacodeaa", sum := "bd26f4f0d8e6e12273c2ba0d9fa7ae2cd96054b22d90e12f586568341a6564ca", func := "loop.example/depkernel/laws.FnExactCountRedexes", spec := "fnExactCountRedexes", unfollowed := true, recurses := true, loops := true, apart := false, narrowed := true }
def FnExactCountRedexesUptoSaid : Prop := fnExactCountRedexesUptoRow.holds Try.pinned (OpenSpec.upto fnExactCountRedexesSpec)

/-- 'laws.FnExactTraceTerm', WHERE WHAT IT READS IS OF BULK AT MOST 1048576: true; the input reads as it did. -/
def fnExactTraceTermUptoRow : OpenClaim := { program := "ythmcgpppacodeaa", sum := "bd26f4f0d8e6e12273c2ba0d9fa7ae2cd96054b22d90e12f586568341a6564ca", func := "loop.example/depkernel/laws.FnExactTraceTerm", spec := "fnExactTraceTerm", unfollowed := true, recurses := true, loops := true, apart := false, narrowed := true }
def FnExactTraceTermUptoSaid : Prop := fnExactTraceTermUptoRow.holds Try.pinned (OpenSpec.upto fnExactTraceTermSpec)

/-- 'laws.FnExactDevelopTerm', WHERE WHAT IT READS IS OF BULK AT MOST 1048576: true; the input reads as it did. -/
def fnExactDevelopTermUptoRow : OpenClaim := { program := "ythmcgpppacodeaa", sum := "bd26f4f0d8e6e12273c2ba0d9fa7ae2cd96054b22d90e12f586568341a6564ca", func := "loop.example/depkernel/laws.FnExactDevelopTerm", spec := "fnExactDevelopTerm", unfollowed := true, recurses := true, loops := true, apart := false, narrowed := true }
def FnExactDevelopTermUptoSaid : Prop := fnExactDevelopTermUptoRow.holds Try.pinned (OpenSpec.upto fnExactDevelopTermSpec)

end Rows
end Go.Proofs.Ythmcgpppacodeaa
