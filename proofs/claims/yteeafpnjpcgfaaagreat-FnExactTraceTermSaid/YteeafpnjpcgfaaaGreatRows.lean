/-
  NARROWER THAN 'FOR EVERY INPUT', by the rows' own cells (each row's printed sentence says how): FnExactFormatTerm: loops · FnExactShowNamed: loops · FnExactFormatDefs: loops · FnExactTraceTerm: loops.
  DERIVED. THE GIVEN ROWS OF THIS SEAT. 5 by the template 'for every input the law returns true; each argument reads behind the call as it read before'; 0 by the template 'total and deterministic' (their statements: YteeafpnjpcgfaaaGreatTotals.lean).
  GIVEN WITH THE SEED: the statements are not yours to turn. If you find one false, say at which input.
  Laid BY PROGRAM, IN A SANDBOX (cutbox-rows.mjs): the forced cells as the released guide's own fill.sh prints them over the translation f03d6d38c73e5276… (all of the seat's roots in one cut). By AI agents, Wed Nov 11 2026. No macro, syntax, notation, axiom, sorry.
-/
import Derived.Test.YteeafpnjpcgfaaaGreatChecked
import GoSem.Claim
import GoSem.ClaimJoined
import GoSem.ClaimMapViews
import Derived.JoinedTies
import Derived.KernelRfl
namespace Go.Proofs.YteeafpnjpcgfaaaGreat
/- THE CELL 'sum', in the pinned program and in every row, IS THE sha256 OF THE DUMP (.gsa) THAT YteeafpnjpcgfaaaGreatProg.lean LOADS. Nothing in Lean hashes anything: it is a label: what it is worth is what the hold of that sum in a sandbox is worth. -/
noncomputable def Tryz.pinned : Pinned := { name := "yteeafpnjpcgfaaagreat", sum := "f03d6d38c73e527604aa5ca0e3dd0bf9d4851ad3825879b55bb94c98e8bc02f9", checked := Tryz.checked }
namespace Rows
def none {H : Type} : Left H := { results := [], args := [] }

/-- 'laws.FnExactFormatTerm': WHATEVER THE INPUT: true; the input reads as it did. -/
def fnExactFormatTermSpec : ChangeSpec := { name := "fnExactFormatTerm", fn := fun _ => fun
  | [d] => { results := [.lit (.bool true)], args := [d] }
  | _ => none }
def fnExactFormatTermRow : OpenClaim := { program := "yteeafpnjpcgfaaagreat", sum := "f03d6d38c73e527604aa5ca0e3dd0bf9d4851ad3825879b55bb94c98e8bc02f9", func := "loop.example/depkernel/laws.FnExactFormatTerm", spec := "fnExactFormatTerm", unfollowed := true, recurses := true, loops := true, apart := false }
def FnExactFormatTermSaid : Prop := fnExactFormatTermRow.holds Tryz.pinned (OpenSpec.ofChange fnExactFormatTermSpec)

/-- ITS FALSE NEIGHBOUR: 'it returns false'. Refute it at one input. -/
def fnExactFormatTermWrong : ChangeSpec := { name := "fnExactFormatTerm", fn := fun _ => fun
  | [d] => { results := [.lit (.bool false)], args := [d] }
  | _ => none }
def FnExactFormatTermWrongFalsely : Prop := fnExactFormatTermRow.holds Tryz.pinned (OpenSpec.ofChange fnExactFormatTermWrong)

/-- 'laws.FnTextLength': WHATEVER THE INPUT: true; the input reads as it did. -/
def fnTextLengthSpec : ChangeSpec := { name := "fnTextLength", fn := fun _ => fun
  | [d] => { results := [.lit (.bool true)], args := [d] }
  | _ => none }
def fnTextLengthRow : OpenClaim := { program := "yteeafpnjpcgfaaagreat", sum := "f03d6d38c73e527604aa5ca0e3dd0bf9d4851ad3825879b55bb94c98e8bc02f9", func := "loop.example/depkernel/laws.FnTextLength", spec := "fnTextLength", unfollowed := true, recurses := true, apart := false }
def FnTextLengthSaid : Prop := fnTextLengthRow.holds Tryz.pinned (OpenSpec.ofChange fnTextLengthSpec)

/-- ITS FALSE NEIGHBOUR: 'it returns false'. Refute it at one input. -/
def fnTextLengthWrong : ChangeSpec := { name := "fnTextLength", fn := fun _ => fun
  | [d] => { results := [.lit (.bool false)], args := [d] }
  | _ => none }
def FnTextLengthWrongFalsely : Prop := fnTextLengthRow.holds Tryz.pinned (OpenSpec.ofChange fnTextLengthWrong)

/-- 'laws.FnExactShowNamed': WHATEVER THE INPUT: true; the input reads as it did. -/
def fnExactShowNamedSpec : ChangeSpec := { name := "fnExactShowNamed", fn := fun _ => fun
  | [d1, d2] => { results := [.lit (.bool true)], args := [d1, d2] }
  | _ => none }
def fnExactShowNamedRow : OpenClaim := { program := "yteeafpnjpcgfaaagreat", sum := "f03d6d38c73e527604aa5ca0e3dd0bf9d4851ad3825879b55bb94c98e8bc02f9", func := "loop.example/depkernel/laws.FnExactShowNamed", spec := "fnExactShowNamed", unfollowed := true, recurses := true, loops := true, apart := false }
def FnExactShowNamedSaid : Prop := fnExactShowNamedRow.holds Tryz.pinned (OpenSpec.ofChange fnExactShowNamedSpec)

/-- ITS FALSE NEIGHBOUR: 'it returns false'. Refute it at one input. -/
def fnExactShowNamedWrong : ChangeSpec := { name := "fnExactShowNamed", fn := fun _ => fun
  | [d1, d2] => { results := [.lit (.bool false)], args := [d1, d2] }
  | _ => none }
def FnExactShowNamedWrongFalsely : Prop := fnExactShowNamedRow.holds Tryz.pinned (OpenSpec.ofChange fnExactShowNamedWrong)

/-- 'laws.FnExactFormatDefs': WHATEVER THE INPUT: true; the input reads as it did. -/
def fnExactFormatDefsSpec : ChangeSpec := { name := "fnExactFormatDefs", fn := fun _ => fun
  | [d] => { results := [.lit (.bool true)], args := [d] }
  | _ => none }
def fnExactFormatDefsRow : OpenClaim := { program := "yteeafpnjpcgfaaagreat", sum := "f03d6d38c73e527604aa5ca0e3dd0bf9d4851ad3825879b55bb94c98e8bc02f9", func := "loop.example/depkernel/laws.FnExactFormatDefs", spec := "fnExactFormatDefs", inPlace := ["internal/abi.NoEscape"], unfollowed := true, recurses := true, loops := true, apart := false }
def FnExactFormatDefsSaid : Prop := fnExactFormatDefsRow.holds Tryz.pinned (OpenSpec.ofChange fnExactFormatDefsSpec)

/-- ITS FALSE NEIGHBOUR: 'it returns false'. Refute it at one input. -/
def fnExactFormatDefsWrong : ChangeSpec := { name := "fnExactFormatDefs", fn := fun _ => fun
  | [d] => { results := [.lit (.bool false)], args := [d] }
  | _ => none }
def FnExactFormatDefsWrongFalsely : Prop := fnExactFormatDefsRow.holds Tryz.pinned (OpenSpec.ofChange fnExactFormatDefsWrong)

/-- 'laws.FnExactTraceTerm': WHATEVER THE INPUT: true; the input reads as it did. -/
def fnExactTraceTermSpec : ChangeSpec := { name := "fnExactTraceTerm", fn := fun _ => fun
  | [d] => { results := [.lit (.bool true)], args := [d] }
  | _ => none }
def fnExactTraceTermRow : OpenClaim := { program := "yteeafpnjpcgfaaagreat", sum := "f03d6d38c73e527604aa5ca0e3dd0bf9d4851ad3825879b55bb94c98e8bc02f9", func := "loop.example/depkernel/laws.FnExactTraceTerm", spec := "fnExactTraceTerm", unfollowed := true, recurses := true, loops := true, apart := false }
def FnExactTraceTermSaid : Prop := fnExactTraceTermRow.holds Tryz.pinned (OpenSpec.ofChange fnExactTraceTermSpec)

/-- ITS FALSE NEIGHBOUR: 'it returns false'. Refute it at one input. -/
def fnExactTraceTermWrong : ChangeSpec := { name := "fnExactTraceTerm", fn := fun _ => fun
  | [d] => { results := [.lit (.bool false)], args := [d] }
  | _ => none }
def FnExactTraceTermWrongFalsely : Prop := fnExactTraceTermRow.holds Tryz.pinned (OpenSpec.ofChange fnExactTraceTermWrong)

/- THE SECOND FORM. 'bulk': how many values and letters a reading holds, each counted each time it is reached (what is shared counts as often as it is met; a slice's spare places count too). A statement '..UptoSaid' is the law's where the arguments, and the package variables that the reading takes, are together of bulk at most 1048576: NARROWER than '..Said'. Prove '..Said' where nothing that the law and all that it calls make is longer than what came in: it says more and counts as full. Else prove '..UptoSaid'. A law counts once. -/
mutual
def uptoBulk {H : Type} : DataW H → Nat
  | .lit (.string bytes) => bytes.length + 1
  | .lit _ => 1
  | .nil => 1
  | .ptr d => uptoBulk d + 1
  | .slice elems spare => uptoBulkAll elems + uptoBulkAll spare + 1
  | .agg parts => uptoBulkAll parts + 1
  | .iface _ d => uptoBulk d + 1
  | .map entries => uptoBulkEntries entries + 1
  | .held _ => 1
def uptoBulkAll {H : Type} : List (DataW H) → Nat
  | [] => 0
  | d :: r => uptoBulk d + uptoBulkAll r
def uptoBulkEntries {H : Type} : List (Lit × DataW H) → Nat
  | [] => 0
  | x :: r => uptoBulkEntry x + uptoBulkEntries r
def uptoBulkEntry {H : Type} : Lit × DataW H → Nat
  | (.string bytes, d) => bytes.length + uptoBulk d + 1
  | (_, d) => uptoBulk d + 1
 end
def uptoSmall : (H : Type) → List (DataW H) → Bool := fun _ ds => decide (uptoBulkAll ds ≤ 1048576)
def OpenSpec.upto (s : _root_.Go.ChangeSpec) : _root_.Go.OpenSpec := { _root_.Go.OpenSpec.ofChange s with cond := some uptoSmall }

/-- 'laws.FnExactFormatTerm', WHERE WHAT IT READS IS OF BULK AT MOST 1048576: true; the input reads as it did. -/
def fnExactFormatTermUptoRow : OpenClaim := { program := "yteeafpnjpcgfaaagreat", sum := "f03d6d38c73e527604aa5ca0e3dd0bf9d4851ad3825879b55bb94c98e8bc02f9", func := "loop.example/depkernel/laws.FnExactFormatTerm", spec := "fnExactFormatTerm", unfollowed := true, recurses := true, loops := true, apart := false, narrowed := true }
def FnExactFormatTermUptoSaid : Prop := fnExactFormatTermUptoRow.holds Tryz.pinned (OpenSpec.upto fnExactFormatTermSpec)

/-- 'laws.FnTextLength', WHERE WHAT IT READS IS OF BULK AT MOST 1048576: true; the input reads as it did. -/
def fnTextLengthUptoRow : OpenClaim := { program := "yteeafpnjpcgfaaagreat", sum := "f03d6d38c73e527604aa5ca0e3dd0bf9d4851ad3825879b55bb94c98e8bc02f9", func := "loop.example/depkernel/laws.FnTextLength", spec := "fnTextLength", unfollowed := true, recurses := true, apart := false, narrowed := true }
def FnTextLengthUptoSaid : Prop := fnTextLengthUptoRow.holds Tryz.pinned (OpenSpec.upto fnTextLengthSpec)

/-- 'laws.FnExactShowNamed', WHERE WHAT IT READS IS OF BULK AT MOST 1048576: true; the input reads as it did. -/
def fnExactShowNamedUptoRow : OpenClaim := { program := "yteeafpnjpcgfaaagreat", sum := "f03d6d38c73e527604aa5ca0e3dd0bf9d4851ad3825879b55bb94c98e8bc02f9", func := "loop.example/depkernel/laws.FnExactShowNamed", spec := "fnExactShowNamed", unfollowed := true, recurses := true, loops := true, apart := false, narrowed := true }
def FnExactShowNamedUptoSaid : Prop := fnExactShowNamedUptoRow.holds Tryz.pinned (OpenSpec.upto fnExactShowNamedSpec)

/-- 'laws.FnExactFormatDefs', WHERE WHAT IT READS IS OF BULK AT MOST 1048576: true; the input reads as it did. -/
def fnExactFormatDefsUptoRow : OpenClaim := { program := "yteeafpnjpcgfaaagreat", sum := "f03d6d38c73e527604aa5ca0e3dd0bf9d4851ad3825879b55bb94c98e8bc02f9", func := "loop.example/depkernel/laws.FnExactFormatDefs", spec := "fnExactFormatDefs", inPlace := ["internal/abi.NoEscape"], unfollowed := true, recurses := true, loops := true, apart := false, narrowed := true }
def FnExactFormatDefsUptoSaid : Prop := fnExactFormatDefsUptoRow.holds Tryz.pinned (OpenSpec.upto fnExactFormatDefsSpec)

/-- 'laws.FnExactTraceTerm', WHERE WHAT IT READS IS OF BULK AT MOST 1048576: true; the input reads as it did. -/
def fnExactTraceTermUptoRow : OpenClaim := { program := "yteeafpnjpcgfaaagreat", sum := "f03d6d38c73e527604aa5ca0e3dd0bf9d4851ad3825879b55bb94c98e8bc02f9", func := "loop.example/depkernel/laws.FnExactTraceTerm", spec := "fnExactTraceTerm", unfollowed := true, recurses := true, loops := true, apart := false, narrowed := true }
def FnExactTraceTermUptoSaid : Prop := fnExactTraceTermUptoRow.holds Tryz.pinned (OpenSpec.upto fnExactTraceTermSpec)

end Rows
end Go.Proofs.YteeafpnjpcgfaaaGreat
