/-
  NARROWER THAN 'FOR EVERY INPUT', by the rows' own cells (each row's printed sentence says how): FnExactConvertible: loops · FnExactTraceTerm: loops.
  DERIVED. THE GIVEN ROWS OF THIS SEAT. 4 by the template 'for every input the law returns true; each argument reads behind the call as it read before'; 0 by the template 'total and deterministic' (their statements: YtlnpebdmekccaaaGreatTotals.lean).
  GIVEN WITH THE SEED: the statements are not yours to turn. If you find one false, say at which input.
  Laid BY PROGRAM, IN A SANDBOX (cutbox-rows.mjs): the forced cells as the released guide's own fill.sh prints them over the translation ef04bfad6dacba3c… (all of the seat's roots in one cut). By AI agents, Wed Nov 11 2026. No macro, syntax, notation, axiom, sorry.
-/
import Derived.Test.YtlnpebdmekccaaaGreatChecked
import GoSem.Claim
import GoSem.ClaimJoined
import GoSem.ClaimMapViews
import Derived.JoinedTies
import Derived.KernelRfl
namespace Go.Proofs.YtlnpebdmekccaaaGreat
/- THE CELL 'sum', in the pinned program and in every row, IS THE sha256 OF THE DUMP (.gsa) THAT YtlnpebdmekccaaaGreatProg.lean LOADS. Nothing in Lean hashes anything: it is a label: what it is worth is what the hold of that sum in a sandbox is worth. -/
noncomputable def Tryz.pinned : Pinned := { name := "ytlnpebdmekccaaagreat", sum := "ef04bfad6dacba3cbbba61c9934c472ce8e0d47847b0003e846574fce22985d6", checked := Tryz.checked }
namespace Rows
def none {H : Type} : Left H := { results := [], args := [] }

/-- 'laws.FnDevelopTerm': WHATEVER THE INPUT: true; the input reads as it did. -/
def fnDevelopTermSpec : ChangeSpec := { name := "fnDevelopTerm", fn := fun _ => fun
  | [d] => { results := [.lit (.bool true)], args := [d] }
  | _ => none }
def fnDevelopTermRow : OpenClaim := { program := "ytlnpebdmekccaaagreat", sum := "ef04bfad6dacba3cbbba61c9934c472ce8e0d47847b0003e846574fce22985d6", func := "loop.example/depkernel/laws.FnDevelopTerm", spec := "fnDevelopTerm", unfollowed := true, recurses := true, plainKeys := false, apart := false }
def FnDevelopTermSaid : Prop := fnDevelopTermRow.holds Tryz.pinned (OpenSpec.ofChange fnDevelopTermSpec)

/-- ITS FALSE NEIGHBOUR: 'it returns false'. Refute it at one input. -/
def fnDevelopTermWrong : ChangeSpec := { name := "fnDevelopTerm", fn := fun _ => fun
  | [d] => { results := [.lit (.bool false)], args := [d] }
  | _ => none }
def FnDevelopTermWrongFalsely : Prop := fnDevelopTermRow.holds Tryz.pinned (OpenSpec.ofChange fnDevelopTermWrong)

/-- 'laws.FnTraceEnd': WHATEVER THE INPUT: true; the input reads as it did. -/
def fnTraceEndSpec : ChangeSpec := { name := "fnTraceEnd", fn := fun _ => fun
  | [d] => { results := [.lit (.bool true)], args := [d] }
  | _ => none }
def fnTraceEndRow : OpenClaim := { program := "ytlnpebdmekccaaagreat", sum := "ef04bfad6dacba3cbbba61c9934c472ce8e0d47847b0003e846574fce22985d6", func := "loop.example/depkernel/laws.FnTraceEnd", spec := "fnTraceEnd", unfollowed := true, recurses := true, plainKeys := false, apart := false }
def FnTraceEndSaid : Prop := fnTraceEndRow.holds Tryz.pinned (OpenSpec.ofChange fnTraceEndSpec)

/-- ITS FALSE NEIGHBOUR: 'it returns false'. Refute it at one input. -/
def fnTraceEndWrong : ChangeSpec := { name := "fnTraceEnd", fn := fun _ => fun
  | [d] => { results := [.lit (.bool false)], args := [d] }
  | _ => none }
def FnTraceEndWrongFalsely : Prop := fnTraceEndRow.holds Tryz.pinned (OpenSpec.ofChange fnTraceEndWrong)

/-- 'laws.FnExactConvertible': WHATEVER THE INPUT: true; the input reads as it did. -/
def fnExactConvertibleSpec : ChangeSpec := { name := "fnExactConvertible", fn := fun _ => fun
  | [d1, d2, d3] => { results := [.lit (.bool true)], args := [d1, d2, d3] }
  | _ => none }
def fnExactConvertibleRow : OpenClaim := { program := "ytlnpebdmekccaaagreat", sum := "ef04bfad6dacba3cbbba61c9934c472ce8e0d47847b0003e846574fce22985d6", func := "loop.example/depkernel/laws.FnExactConvertible", spec := "fnExactConvertible", unfollowed := true, recurses := true, loops := true, plainKeys := false, apart := false }
def FnExactConvertibleSaid : Prop := fnExactConvertibleRow.holds Tryz.pinned (OpenSpec.ofChange fnExactConvertibleSpec)

/-- ITS FALSE NEIGHBOUR: 'it returns false'. Refute it at one input. -/
def fnExactConvertibleWrong : ChangeSpec := { name := "fnExactConvertible", fn := fun _ => fun
  | [d1, d2, d3] => { results := [.lit (.bool false)], args := [d1, d2, d3] }
  | _ => none }
def FnExactConvertibleWrongFalsely : Prop := fnExactConvertibleRow.holds Tryz.pinned (OpenSpec.ofChange fnExactConvertibleWrong)

/-- 'laws.FnExactTraceTerm': WHATEVER THE INPUT: true; the input reads as it did. -/
def fnExactTraceTermSpec : ChangeSpec := { name := "fnExactTraceTerm", fn := fun _ => fun
  | [d] => { results := [.lit (.bool true)], args := [d] }
  | _ => none }
def fnExactTraceTermRow : OpenClaim := { program := "ytlnpebdmekccaaagreat", sum := "ef04bfad6dacba3cbbba61c9934c472ce8e0d47847b0003e846574fce22985d6", func := "loop.example/depkernel/laws.FnExactTraceTerm", spec := "fnExactTraceTerm", unfollowed := true, recurses := true, loops := true, plainKeys := false, apart := false }
def FnExactTraceTermSaid : Prop := fnExactTraceTermRow.holds Tryz.pinned (OpenSpec.ofChange fnExactTraceTermSpec)

/-- ITS FALSE NEIGHBOUR: 'it returns false'. Refute it at one input. -/
def fnExactTraceTermWrong : ChangeSpec := { name := "fnExactTraceTerm", fn := fun _ => fun
  | [d] => { results := [.lit (.bool false)], args := [d] }
  | _ => none }
def FnExactTraceTermWrongFalsely : Prop := fnExactTraceTermRow.holds Tryz.pinned (OpenSpec.ofChange fnExactTraceTermWrong)

/- THE SECOND FORM. 'bulk': how many values and letters a reading holds, each counted each time it is reached (what is shared counts as often as it is met; a slice's spare places count too). A statement '..UptoSaid' is the law's where the arguments, and the package variables that the reading takes, are together of bulk at most 1048576: NARROWER than '..Said'. Prove '..Said' where nothing that the law and all that it calls make is longer than what came in: it says more and counts as full. Else prove '..UptoSaid'. A law counts once. -/
mutual
def uptoBulk {H : Type} : DataW H → Nat
  | .lit (.string bytes) => bytes.length + 1
  | .lit _ => 1
  | .nil => 1
  | .ptr d => uptoBulk d + 1
  | .slice elems spare => uptoBulkAll elems + uptoBulkAll spare + 1
  | .agg parts => uptoBulkAll parts + 1
  | .iface _ d => uptoBulk d + 1
  | .map entries => uptoBulkEntries entries + 1
  | .held _ => 1
def uptoBulkAll {H : Type} : List (DataW H) → Nat
  | [] => 0
  | d :: r => uptoBulk d + uptoBulkAll r
def uptoBulkEntries {H : Type} : List (Lit × DataW H) → Nat
  | [] => 0
  | x :: r => uptoBulkEntry x + uptoBulkEntries r
def uptoBulkEntry {H : Type} : Lit × DataW H → Nat
  | (.string bytes, d) => bytes.length + uptoBulk d + 1
  | (_, d) => uptoBulk d + 1
 end
def uptoSmall : (H : Type) → List (DataW H) → Bool := fun _ ds => decide (uptoBulkAll ds ≤ 1048576)
def OpenSpec.upto (s : _root_.Go.ChangeSpec) : _root_.Go.OpenSpec := { _root_.Go.OpenSpec.ofChange s with cond := some uptoSmall }

/-- 'laws.FnDevelopTerm', WHERE WHAT IT READS IS OF BULK AT MOST 1048576: true; the input reads as it did. -/
def fnDevelopTermUptoRow : OpenClaim := { program := "ytlnpebdmekccaaagreat", sum := "ef04bfad6dacba3cbbba61c9934c472ce8e0d47847b0003e846574fce22985d6", func := "loop.example/depkernel/laws.FnDevelopTerm", spec := "fnDevelopTerm", unfollowed := true, recurses := true, plainKeys := false, apart := false, narrowed := true }
def FnDevelopTermUptoSaid : Prop := fnDevelopTermUptoRow.holds Tryz.pinned (OpenSpec.upto fnDevelopTermSpec)

/-- 'laws.FnTraceEnd', WHERE WHAT IT READS IS OF BULK AT MOST 1048576: true; the input reads as it did. -/
def fnTraceEndUptoRow : OpenClaim := { program := "ytlnpebdmekccaaagreat", sum := "ef04bfad6dacba3cbbba61c9934c472ce8e0d47847b0003e846574fce22985d6", func := "loop.example/depkernel/laws.FnTraceEnd", spec := "fnTraceEnd", unfollowed := true, recurses := true, plainKeys := false, apart := false, narrowed := true }
def FnTraceEndUptoSaid : Prop := fnTraceEndUptoRow.holds Tryz.pinned (OpenSpec.upto fnTraceEndSpec)

/-- 'laws.FnExactConvertible', WHERE WHAT IT READS IS OF BULK AT MOST 1048576: true; the input reads as it did. -/
def fnExactConvertibleUptoRow : OpenClaim := { program := "ytlnpebdmekccaaagreat", sum := "ef04bfad6dacba3cbbba61c9934c472ce8e0d47847b0003e846574fce22985d6", func := "loop.example/depkernel/laws.FnExactConvertible", spec := "fnExactConvertible", unfollowed := true, recurses := true, loops := true, plainKeys := false, apart := false, narrowed := true }
def FnExactConvertibleUptoSaid : Prop := fnExactConvertibleUptoRow.holds Tryz.pinned (OpenSpec.upto fnExactConvertibleSpec)

/-- 'laws.FnExactTraceTerm', WHERE WHAT IT READS IS OF BULK AT MOST 1048576: true; the input reads as it did. -/
def fnExactTraceTermUptoRow : OpenClaim := { program := "ytlnpebdmekccaaagreat", sum := "ef04bfad6dacba3cbbba61c9934c472ce8e0d47847b0003e846574fce22985d6", func := "loop.example/depkernel/laws.FnExactTraceTerm", spec := "fnExactTraceTerm", unfollowed := true, recurses := true, loops := true, plainKeys := false, apart := false, narrowed := true }
def FnExactTraceTermUptoSaid : Prop := fnExactTraceTermUptoRow.holds Tryz.pinned (OpenSpec.upto fnExactTraceTermSpec)

end Rows
end Go.Proofs.YtlnpebdmekccaaaGreat
