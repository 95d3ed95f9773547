/-
  No cell of these rows narrows 'for every input' (looked for: loops, veiled, ifaces, maps, wideKeys, modest, calm, conditions, laid).
  DERIVED. THE GIVEN ROWS OF THIS SEAT. 2 by the template 'for every input the law returns true; each argument reads behind the call as it read before'; 0 by the template 'total and deterministic' (their statements: YtlbikgnanabjgaaGreatTotals.lean).
  GIVEN WITH THE SEED: the statements are not yours to turn. If you find one false, say at which input.
  Laid BY PROGRAM, IN A SANDBOX (cutbox-rows.mjs): the forced cells as the released guide's own fill.sh prints them over the translation 7a4b882137c6e68c… (all of the seat's roots in one cut). By AI agents, Wed Nov 11 2026. No macro, syntax, notation, axiom, sorry.
-/
import Derived.Test.YtlbikgnanabjgaaGreatChecked
import GoSem.Claim
import GoSem.ClaimJoined
import GoSem.ClaimMapViews
import Derived.JoinedTies
import Derived.KernelRfl
namespace Go.Proofs.YtlbikgnanabjgaaGreat
/- THE CELL 'sum', in the pinned program and in every row, IS THE sha256 OF THE DUMP (.gsa) THAT YtlbikgnanabjgaaGreatProg.lean LOADS. Nothing in Lean hashes anything: it is a label: what it is worth is what the hold of that sum in a sandbox is worth. -/
noncomputable def Tryz.pinned : Pinned := { name := "ytlbikgnanabjgaagreat", sum := "7a4b882137c6e68cbaf16bceaf06876086f84ce678a3b18e4a16696329cbb9c9", checked := Tryz.checked }
namespace Rows
def none {H : Type} : Left H := { results := [], args := [] }

/-- 'laws.FnTraceTerm': WHATEVER THE INPUT: true; the input reads as it did. -/
def fnTraceTermSpec : ChangeSpec := { name := "fnTraceTerm", fn := fun _ => fun
  | [d] => { results := [.lit (.bool true)], args := [d] }
  | _ => none }
def fnTraceTermRow : OpenClaim := { program := "ytlbikgnanabjgaagreat", sum := "7a4b882137c6e68cbaf16bceaf06876086f84ce678a3b18e4a16696329cbb9c9", func := "loop.example/depkernel/laws.FnTraceTerm", spec := "fnTraceTerm", unfollowed := true, recurses := true, plainKeys := false, apart := false }
def FnTraceTermSaid : Prop := fnTraceTermRow.holds Tryz.pinned (OpenSpec.ofChange fnTraceTermSpec)

/-- ITS FALSE NEIGHBOUR: 'it returns false'. Refute it at one input. -/
def fnTraceTermWrong : ChangeSpec := { name := "fnTraceTerm", fn := fun _ => fun
  | [d] => { results := [.lit (.bool false)], args := [d] }
  | _ => none }
def FnTraceTermWrongFalsely : Prop := fnTraceTermRow.holds Tryz.pinned (OpenSpec.ofChange fnTraceTermWrong)

/-- 'laws.FnTraceEnd': WHATEVER THE INPUT: true; the input reads as it did. -/
def fnTraceEndSpec : ChangeSpec := { name := "fnTraceEnd", fn := fun _ => fun
  | [d] => { results := [.lit (.bool true)], args := [d] }
  | _ => none }
def fnTraceEndRow : OpenClaim := { program := "ytlbikgnanabjgaagreat", sum := "7a4b882137c6e68cbaf16bceaf06876086f84ce678a3b18e4a16696329cbb9c9", func := "loop.example/depkernel/laws.FnTraceEnd", spec := "fnTraceEnd", unfollowed := true, recurses := true, plainKeys := false, apart := false }
def FnTraceEndSaid : Prop := fnTraceEndRow.holds Tryz.pinned (OpenSpec.ofChange fnTraceEndSpec)

/-- ITS FALSE NEIGHBOUR: 'it returns false'. Refute it at one input. -/
def fnTraceEndWrong : ChangeSpec := { name := "fnTraceEnd", fn := fun _ => fun
  | [d] => { results := [.lit (.bool false)], args := [d] }
  | _ => none }
def FnTraceEndWrongFalsely : Prop := fnTraceEndRow.holds Tryz.pinned (OpenSpec.ofChange fnTraceEndWrong)

/- THE SECOND FORM. 'bulk': how many values and letters a reading holds, each counted each time it is reached (what is shared counts as often as it is met; a slice's spare places count too). A statement '..UptoSaid' is the law's where the arguments, and the package variables that the reading takes, are together of bulk at most 1048576: NARROWER than '..Said'. Prove '..Said' where nothing that the law and all that it calls make is longer than what came in: it says more and counts as full. Else prove '..UptoSaid'. A law counts once. -/
mutual
def uptoBulk {H : Type} : DataW H → Nat
  | .lit (.string bytes) => bytes.length + 1
  | .lit _ => 1
  | .nil => 1
  | .ptr d => uptoBulk d + 1
  | .slice elems spare => uptoBulkAll elems + uptoBulkAll spare + 1
  | .agg parts => uptoBulkAll parts + 1
  | .iface _ d => uptoBulk d + 1
  | .map entries => uptoBulkEntries entries + 1
  | .held _ => 1
def uptoBulkAll {H : Type} : List (DataW H) → Nat
  | [] => 0
  | d :: r => uptoBulk d + uptoBulkAll r
def uptoBulkEntries {H : Type} : List (Lit × DataW H) → Nat
  | [] => 0
  | x :: r => uptoBulkEntry x + uptoBulkEntries r
def uptoBulkEntry {H : Type} : Lit × DataW H → Nat
  | (.string bytes, d) => bytes.length + uptoBulk d + 1
  | (_, d) => uptoBulk d + 1
 end
def uptoSmall : (H : Type) → List (DataW H) → Bool := fun _ ds => decide (uptoBulkAll ds ≤ 1048576)
def OpenSpec.upto (s : _root_.Go.ChangeSpec) : _root_.Go.OpenSpec := { _root_.Go.OpenSpec.ofChange s with cond := some uptoSmall }

/-- 'laws.FnTraceTerm', WHERE WHAT IT READS IS OF BULK AT MOST 1048576: true; the input reads as it did. -/
def fnTraceTermUptoRow : OpenClaim := { program := "ytlbikgnanabjgaagreat", sum := "7a4b882137c6e68cbaf16bceaf06876086f84ce678a3b18e4a16696329cbb9c9", func := "loop.example/depkernel/laws.FnTraceTerm", spec := "fnTraceTerm", unfollowed := true, recurses := true, plainKeys := false, apart := false, narrowed := true }
def FnTraceTermUptoSaid : Prop := fnTraceTermUptoRow.holds Tryz.pinned (OpenSpec.upto fnTraceTermSpec)

/-- 'laws.FnTraceEnd', WHERE WHAT IT READS IS OF BULK AT MOST 1048576: true; the input reads as it did. -/
def fnTraceEndUptoRow : OpenClaim := { program := "ytlbikgnanabjgaagreat", sum := "7a4b882137c6e68cbaf16bceaf06876086f84ce678a3b18e4a16696329cbb9c9", func := "loop.example/depkernel/laws.FnTraceEnd", spec := "fnTraceEnd", unfollowed := true, recurses := true, plainKeys := false, apart := false, narrowed := true }
def FnTraceEndUptoSaid : Prop := fnTraceEndUptoRow.holds Tryz.pinned (OpenSpec.upto fnTraceEndSpec)

end Rows
end Go.Proofs.YtlbikgnanabjgaaGreat
