/-
  NARROWER THAN 'FOR EVERY INPUT', by the rows' own cells (each row's printed sentence says how): FnExactPiOver: loops · FnExactLamOver: loops · FnExactSplitPi: loops · FnExactCountPi: loops · FnExactApplyAll: loops · FnExactSplitApp: loops.
  DERIVED. THE GIVEN ROWS OF THIS SEAT. 7 by the template 'for every input the law returns true; each argument reads behind the call as it read before'; 0 by the template 'total and deterministic' (their statements: YtakdfpoigjgcnaaTotals.lean).
  GIVEN WITH THE SEED: the statements are not yours to turn. If you find one false, say at which input.
  Laid BY PROGRAM, IN A SANDBOX (cutbox-rows.mjs): the forced cells as the released guide's own fill.sh prints them over the translation 5641072b06a6540b… (all of the seat's roots in one cut). By AI agents, Wed Nov 11 2026. No macro, syntax, notation, axiom, sorry.
-/
import Derived.Test.YtakdfpoigjgcnaaChecked
import GoSem.Claim
import GoSem.ClaimJoined
import GoSem.ClaimMapViews
import Derived.JoinedTies
import Derived.KernelRfl
namespace Go.Proofs.Ytakdfpoigjgcnaa
/- THE CELL 'sum', in the pinned program and in every row, IS THE sha256 OF THE DUMP (.gsa) THAT YtakdfpoigjgcnaaProg.lean LOADS. Nothing in Lean hashes anything: it is a label: what it is worth is what the hold of that sum in a sandbox is worth. -/
noncomputable def Try.pinned : Pinned := { name := "ytakdfpoigjgcnaa", sum := "5641072b06a6540bbfef4a7b4e355ff861d8ea77fd29b75e0fe54927b1ce4b9d", checked := Try.checked }
namespace Rows
def none {H : Type} : Left H := { results := [], args := [] }

/-- 'laws.FnExactPiOver': WHATEVER THE INPUT: true; the input reads as it did. -/
def fnExactPiOverSpec : ChangeSpec := { name := "fnExactPiOver", fn := fun _ => fun
  | [d1, d2] => { results := [.lit (.bool true)], args := [d1, d2] }
  | _ => none }
def fnExactPiOverRow : OpenClaim := { program := "ytakdfpoigjgcnaa", sum := "5641072b06a6540bbfef4a7b4e355ff861d8ea77fd29b75e0fe54927b1ce4b9d", func := "loop.example/depkernel/laws.FnExactPiOver", spec := "fnExactPiOver", unfollowed := true, recurses := true, loops := true, apart := false }
def FnExactPiOverSaid : Prop := fnExactPiOverRow.holds Try.pinned (OpenSpec.ofChange fnExactPiOverSpec)

/-- ITS FALSE NEIGHBOUR: 'it returns false'. Refute it at one input. -/
def fnExactPiOverWrong : ChangeSpec := { name := "fnExactPiOver", fn := fun _ => fun
  | [d1, d2] => { results := [.lit (.bool false)], args := [d1, d2] }
  | _ => none }
def FnExactPiOverWrongFalsely : Prop := fnExactPiOverRow.holds Try.pinned (OpenSpec.ofChange fnExactPiOverWrong)

/-- 'laws.FnExactLamOver': WHATEVER THE INPUT: true; the input reads as it did. -/
def fnExactLamOverSpec : ChangeSpec := { name := "fnExactLamOver", fn := fun _ => fun
  | [d1, d2] => { results := [.lit (.bool true)], args := [d1, d2] }
  | _ => none }
def fnExactLamOverRow : OpenClaim := { program := "ytakdfpoigjgcnaa", sum := "5641072b06a6540bbfef4a7b4e355ff861d8ea77fd29b75e0fe54927b1ce4b9d", func := "loop.example/depkernel/laws.FnExactLamOver", spec := "fnExactLamOver", unfollowed := true, recurses := true, loops := true, apart := false }
def FnExactLamOverSaid : Prop := fnExactLamOverRow.holds Try.pinned (OpenSpec.ofChange fnExactLamOverSpec)

/-- ITS FALSE NEIGHBOUR: 'it returns false'. Refute it at one input. -/
def fnExactLamOverWrong : ChangeSpec := { name := "fnExactLamOver", fn := fun _ => fun
  | [d1, d2] => { results := [.lit (.bool false)], args := [d1, d2] }
  | _ => none }
def FnExactLamOverWrongFalsely : Prop := fnExactLamOverRow.holds Try.pinned (OpenSpec.ofChange fnExactLamOverWrong)

/-- 'laws.FnExactSplitPi': WHATEVER THE INPUT: true; the input reads as it did. -/
def fnExactSplitPiSpec : ChangeSpec := { name := "fnExactSplitPi", fn := fun _ => fun
  | [d1, d2] => { results := [.lit (.bool true)], args := [d1, d2] }
  | _ => none }
def fnExactSplitPiRow : OpenClaim := { program := "ytakdfpoigjgcnaa", sum := "5641072b06a6540bbfef4a7b4e355ff861d8ea77fd29b75e0fe54927b1ce4b9d", func := "loop.example/depkernel/laws.FnExactSplitPi", spec := "fnExactSplitPi", unfollowed := true, recurses := true, loops := true, apart := false }
def FnExactSplitPiSaid : Prop := fnExactSplitPiRow.holds Try.pinned (OpenSpec.ofChange fnExactSplitPiSpec)

/-- ITS FALSE NEIGHBOUR: 'it returns false'. Refute it at one input. -/
def fnExactSplitPiWrong : ChangeSpec := { name := "fnExactSplitPi", fn := fun _ => fun
  | [d1, d2] => { results := [.lit (.bool false)], args := [d1, d2] }
  | _ => none }
def FnExactSplitPiWrongFalsely : Prop := fnExactSplitPiRow.holds Try.pinned (OpenSpec.ofChange fnExactSplitPiWrong)

/-- 'laws.FnExactCountPi': WHATEVER THE INPUT: true; the input reads as it did. -/
def fnExactCountPiSpec : ChangeSpec := { name := "fnExactCountPi", fn := fun _ => fun
  | [d] => { results := [.lit (.bool true)], args := [d] }
  | _ => none }
def fnExactCountPiRow : OpenClaim := { program := "ytakdfpoigjgcnaa", sum := "5641072b06a6540bbfef4a7b4e355ff861d8ea77fd29b75e0fe54927b1ce4b9d", func := "loop.example/depkernel/laws.FnExactCountPi", spec := "fnExactCountPi", unfollowed := true, recurses := true, loops := true, apart := false }
def FnExactCountPiSaid : Prop := fnExactCountPiRow.holds Try.pinned (OpenSpec.ofChange fnExactCountPiSpec)

/-- ITS FALSE NEIGHBOUR: 'it returns false'. Refute it at one input. -/
def fnExactCountPiWrong : ChangeSpec := { name := "fnExactCountPi", fn := fun _ => fun
  | [d] => { results := [.lit (.bool false)], args := [d] }
  | _ => none }
def FnExactCountPiWrongFalsely : Prop := fnExactCountPiRow.holds Try.pinned (OpenSpec.ofChange fnExactCountPiWrong)

/-- 'laws.FnExactApplyAll': WHATEVER THE INPUT: true; the input reads as it did. -/
def fnExactApplyAllSpec : ChangeSpec := { name := "fnExactApplyAll", fn := fun _ => fun
  | [d1, d2] => { results := [.lit (.bool true)], args := [d1, d2] }
  | _ => none }
def fnExactApplyAllRow : OpenClaim := { program := "ytakdfpoigjgcnaa", sum := "5641072b06a6540bbfef4a7b4e355ff861d8ea77fd29b75e0fe54927b1ce4b9d", func := "loop.example/depkernel/laws.FnExactApplyAll", spec := "fnExactApplyAll", unfollowed := true, recurses := true, loops := true, apart := false }
def FnExactApplyAllSaid : Prop := fnExactApplyAllRow.holds Try.pinned (OpenSpec.ofChange fnExactApplyAllSpec)

/-- ITS FALSE NEIGHBOUR: 'it returns false'. Refute it at one input. -/
def fnExactApplyAllWrong : ChangeSpec := { name := "fnExactApplyAll", fn := fun _ => fun
  | [d1, d2] => { results := [.lit (.bool false)], args := [d1, d2] }
  | _ => none }
def FnExactApplyAllWrongFalsely : Prop := fnExactApplyAllRow.holds Try.pinned (OpenSpec.ofChange fnExactApplyAllWrong)

/-- 'laws.FnExactSplitApp': WHATEVER THE INPUT: true; the input reads as it did. -/
def fnExactSplitAppSpec : ChangeSpec := { name := "fnExactSplitApp", fn := fun _ => fun
  | [d] => { results := [.lit (.bool true)], args := [d] }
  | _ => none }
def fnExactSplitAppRow : OpenClaim := { program := "ytakdfpoigjgcnaa", sum := "5641072b06a6540bbfef4a7b4e355ff861d8ea77fd29b75e0fe54927b1ce4b9d", func := "loop.example/depkernel/laws.FnExactSplitApp", spec := "fnExactSplitApp", unfollowed := true, recurses := true, loops := true, apart := false }
def FnExactSplitAppSaid : Prop := fnExactSplitAppRow.holds Try.pinned (OpenSpec.ofChange fnExactSplitAppSpec)

/-- ITS FALSE NEIGHBOUR: 'it returns false'. Refute it at one input. -/
def fnExactSplitAppWrong : ChangeSpec := { name := "fnExactSplitApp", fn := fun _ => fun
  | [d] => { results := [.lit (.bool false)], args := [d] }
  | _ => none }
def FnExactSplitAppWrongFalsely : Prop := fnExactSplitAppRow.holds Try.pinned (OpenSpec.ofChange fnExactSplitAppWrong)

/-- 'laws.FnExactContextVars': WHATEVER THE INPUT: true; the input reads as it did. -/
def fnExactContextVarsSpec : ChangeSpec := { name := "fnExactContextVars", fn := fun _ => fun
  | [d] => { results := [.lit (.bool true)], args := [d] }
  | _ => none }
def fnExactContextVarsRow : OpenClaim := { program := "ytakdfpoigjgcnaa", sum := "5641072b06a6540bbfef4a7b4e355ff861d8ea77fd29b75e0fe54927b1ce4b9d", func := "loop.example/depkernel/laws.FnExactContextVars", spec := "fnExactContextVars", recurses := true, apart := false }
def FnExactContextVarsSaid : Prop := fnExactContextVarsRow.holds Try.pinned (OpenSpec.ofChange fnExactContextVarsSpec)

/-- ITS FALSE NEIGHBOUR: 'it returns false'. Refute it at one input. -/
def fnExactContextVarsWrong : ChangeSpec := { name := "fnExactContextVars", fn := fun _ => fun
  | [d] => { results := [.lit (.bool false)], args := [d] }
  | _ => none }
def FnExactContextVarsWrongFalsely : Prop := fnExactContextVarsRow.holds Try.pinned (OpenSpec.ofChange fnExactContextVarsWrong)

/- THE SECOND FORM. 'bulk': how many values and letters a reading holds, each counted each time it is reached (what is shared counts as often as it is met; a slice's spare places count too). A statement '..UptoSaid' is the law's where the arguments, and the package variables that the reading takes, are together of bulk at most 1048576: NARROWER than '..Said'. Prove '..Said' where nothing that the law and all that it calls make is longer than what came in: it says more and counts as full. Else prove '..UptoSaid'. A law counts once. -/
mutual
def uptoBulk {H : Type} : DataW H → Nat
  | .lit (.string bytes) => bytes.length + 1
  | .lit _ => 1
  | .nil => 1
  | .ptr d => uptoBulk d + 1
  | .slice elems spare => uptoBulkAll elems + uptoBulkAll spare + 1
  | .agg parts => uptoBulkAll parts + 1
  | .iface _ d => uptoBulk d + 1
  | .map entries => uptoBulkEntries entries + 1
  | .held _ => 1
def uptoBulkAll {H : Type} : List (DataW H) → Nat
  | [] => 0
  | d :: r => uptoBulk d + uptoBulkAll r
def uptoBulkEntries {H : Type} : List (Lit × DataW H) → Nat
  | [] => 0
  | x :: r => uptoBulkEntry x + uptoBulkEntries r
def uptoBulkEntry {H : Type} : Lit × DataW H → Nat
  | (.string bytes, d) => bytes.length + uptoBulk d + 1
  | (_, d) => uptoBulk d + 1
 end
def uptoSmall : (H : Type) → List (DataW H) → Bool := fun _ ds => decide (uptoBulkAll ds ≤ 1048576)
def OpenSpec.upto (s : _root_.Go.ChangeSpec) : _root_.Go.OpenSpec := { _root_.Go.OpenSpec.ofChange s with cond := some uptoSmall }

/-- 'laws.FnExactPiOver', WHERE WHAT IT READS IS OF BULK AT MOST 1048576: true; the input reads as it did. -/
def fnExactPiOverUptoRow : OpenClaim := { program := "ytakdfpoigjgcnaa", sum := "5641072b06a6540bbfef4a7b4e355ff861d8ea77fd29b75e0fe54927b1ce4b9d", func := "loop.example/depkernel/laws.FnExactPiOver", spec := "fnExactPiOver", unfollowed := true, recurses := true, loops := true, apart := false, narrowed := true }
def FnExactPiOverUptoSaid : Prop := fnExactPiOverUptoRow.holds Try.pinned (OpenSpec.upto fnExactPiOverSpec)

/-- 'laws.FnExactLamOver', WHERE WHAT IT READS IS OF BULK AT MOST 1048576: true; the input reads as it did. -/
def fnExactLamOverUptoRow : OpenClaim := { program := "ytakdfpoigjgcnaa", sum := "5641072b06a6540bbfef4a7b4e355ff861d8ea77fd29b75e0fe54927b1ce4b9d", func := "loop.example/depkernel/laws.FnExactLamOver", spec := "fnExactLamOver", unfollowed := true, recurses := true, loops := true, apart := false, narrowed := true }
def FnExactLamOverUptoSaid : Prop := fnExactLamOverUptoRow.holds Try.pinned (OpenSpec.upto fnExactLamOverSpec)

/-- 'laws.FnExactSplitPi', WHERE WHAT IT READS IS OF BULK AT MOST 1048576: true; the input reads as it did. -/
def fnExactSplitPiUptoRow : OpenClaim := { program := "ytakdfpoigjgcnaa", sum := "5641072b06a6540bbfef4a7b4e355ff861d8ea77fd29b75e0fe54927b1ce4b9d", func := "loop.example/depkernel/laws.FnExactSplitPi", spec := "fnExactSplitPi", unfollowed := true, recurses := true, loops := true, apart := false, narrowed := true }
def FnExactSplitPiUptoSaid : Prop := fnExactSplitPiUptoRow.holds Try.pinned (OpenSpec.upto fnExactSplitPiSpec)

/-- 'laws.FnExactCountPi', WHERE WHAT IT READS IS OF BULK AT MOST 1048576: true; the input reads as it did. -/
def fnExactCountPiUptoRow : OpenClaim := { program := "ytakdfpoigjgcnaa", sum := "5641072b06a6540bbfef4a7b4e355ff861d8ea77fd29b75e0fe54927b1ce4b9d", func := "loop.example/depkernel/laws.FnExactCountPi", spec := "fnExactCountPi", unfollowed := true, recurses := true, loops := true, apart := false, narrowed := true }
def FnExactCountPiUptoSaid : Prop := fnExactCountPiUptoRow.holds Try.pinned (OpenSpec.upto fnExactCountPiSpec)

/-- 'laws.FnExactApplyAll', WHERE WHAT IT READS IS OF BULK AT MOST 1048576: true; the input reads as it did. -/
def fnExactApplyAllUptoRow : OpenClaim := { program := "ytakdfpoigjgcnaa", sum := "5641072b06a6540bbfef4a7b4e355ff861d8ea77fd29b75e0fe54927b1ce4b9d", func := "loop.example/depkernel/laws.FnExactApplyAll", spec := "fnExactApplyAll", unfollowed := true, recurses := true, loops := true, apart := false, narrowed := true }
def FnExactApplyAllUptoSaid : Prop := fnExactApplyAllUptoRow.holds Try.pinned (OpenSpec.upto fnExactApplyAllSpec)

/-- 'laws.FnExactSplitApp', WHERE WHAT IT READS IS OF BULK AT MOST 1048576: true; the input reads as it did. -/
def fnExactSplitAppUptoRow : OpenClaim := { program := "ytakdfpoigjgcnaa", sum := "5641072b06a6540bbfef4a7b4e355ff861d8ea77fd29b75e0fe54927b1ce4b9d", func := "loop.example/depkernel/laws.FnExactSplitApp", spec := "fnExactSplitApp", unfollowed := true, recurses := true, loops := true, apart := false, narrowed := true }
def FnExactSplitAppUptoSaid : Prop := fnExactSplitAppUptoRow.holds Try.pinned (OpenSpec.upto fnExactSplitAppSpec)

/-- 'laws.FnExactContextVars', WHERE WHAT IT READS IS OF BULK AT MOST 1048576: true; the input reads as it did. -/
def fnExactContextVarsUptoRow : OpenClaim := { program := "ytakdfpoigjgcnaa", sum := "5641072b06a6540bbfef4a7b4e355ff861d8ea77fd29b75e0fe54927b1ce4b9d", func := "loop.example/depkernel/laws.FnExactContextVars", spec := "fnExactContextVars", recurses := true, apart := false, narrowed := true }
def FnExactContextVarsUptoSaid : Prop := fnExactContextVarsUptoRow.holds Try.pinned (OpenSpec.upto fnExactContextVarsSpec)

end Rows
end Go.Proofs.Ytakdfpoigjgcnaa
