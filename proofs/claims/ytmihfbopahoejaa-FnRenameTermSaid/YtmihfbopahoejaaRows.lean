/-
  NARROWER THAN 'FOR EVERY INPUT', by the rows' own cells (each row's printed sentence says how): FnExactRedexOf: loops.
  DERIVED. THE GIVEN ROWS OF THIS SEAT. 12 by the template 'for every input the law returns true; each argument reads behind the call as it read before'; 0 by the template 'total and deterministic' (their statements: YtmihfbopahoejaaTotals.lean).
  GIVEN WITH THE SEED: the statements are not yours to turn. If you find one false, say at which input.
  Laid BY PROGRAM, IN A SANDBOX (cutbox-rows.mjs): the forced cells as the released guide's own fill.sh prints them over the translation 05ba469e5c78f332… (all of the seat's roots in one cut). By AI agents, Wed Nov 11 2026. No macro, syntax, notation, axiom, sorry.
-/
import Derived.Test.YtmihfbopahoejaaChecked
import GoSem.Claim
import GoSem.ClaimJoined
import GoSem.ClaimMapViews
import Derived.JoinedTies
import Derived.KernelRfl
namespace Go.Proofs.Ytmihfbopahoejaa
/- THE CELL 'sum', in the pinned program and in every row, IS THE sha256 OF THE DUMP (.gsa) THAT YtmihfbopahoejaaProg.lean LOADS. Nothing in Lean hashes anything: it is a label: what it is worth is what the hold of that sum in a sandbox is worth. -/
noncomputable def Try.pinned : Pinned := { name := "ytmihfbopahoejaa", sum := "05ba469e5c78f33261c719fe79a6105c35324ebf3920cd166323e7cdd956700c", checked := Try.checked }
namespace Rows
def none {H : Type} : Left H := { results := [], args := [] }

/-- 'laws.FnShiftBack': WHATEVER THE INPUT: true; the input reads as it did. -/
def fnShiftBackSpec : ChangeSpec := { name := "fnShiftBack", fn := fun _ => fun
  | [d1, d2] => { results := [.lit (.bool true)], args := [d1, d2] }
  | _ => none }
def fnShiftBackRow : OpenClaim := { program := "ytmihfbopahoejaa", sum := "05ba469e5c78f33261c719fe79a6105c35324ebf3920cd166323e7cdd956700c", func := "loop.example/depkernel/laws.FnShiftBack", spec := "fnShiftBack", unfollowed := true, recurses := true, plainKeys := false, apart := false }
def FnShiftBackSaid : Prop := fnShiftBackRow.holds Try.pinned (OpenSpec.ofChange fnShiftBackSpec)

/-- ITS FALSE NEIGHBOUR: 'it returns false'. Refute it at one input. -/
def fnShiftBackWrong : ChangeSpec := { name := "fnShiftBack", fn := fun _ => fun
  | [d1, d2] => { results := [.lit (.bool false)], args := [d1, d2] }
  | _ => none }
def FnShiftBackWrongFalsely : Prop := fnShiftBackRow.holds Try.pinned (OpenSpec.ofChange fnShiftBackWrong)

/-- 'laws.FnShiftFree': WHATEVER THE INPUT: true; the input reads as it did. -/
def fnShiftFreeSpec : ChangeSpec := { name := "fnShiftFree", fn := fun _ => fun
  | [d] => { results := [.lit (.bool true)], args := [d] }
  | _ => none }
def fnShiftFreeRow : OpenClaim := { program := "ytmihfbopahoejaa", sum := "05ba469e5c78f33261c719fe79a6105c35324ebf3920cd166323e7cdd956700c", func := "loop.example/depkernel/laws.FnShiftFree", spec := "fnShiftFree", unfollowed := true, recurses := true, plainKeys := false, apart := false }
def FnShiftFreeSaid : Prop := fnShiftFreeRow.holds Try.pinned (OpenSpec.ofChange fnShiftFreeSpec)

/-- ITS FALSE NEIGHBOUR: 'it returns false'. Refute it at one input. -/
def fnShiftFreeWrong : ChangeSpec := { name := "fnShiftFree", fn := fun _ => fun
  | [d] => { results := [.lit (.bool false)], args := [d] }
  | _ => none }
def FnShiftFreeWrongFalsely : Prop := fnShiftFreeRow.holds Try.pinned (OpenSpec.ofChange fnShiftFreeWrong)

/-- 'laws.FnSubstShift': WHATEVER THE INPUT: true; the input reads as it did. -/
def fnSubstShiftSpec : ChangeSpec := { name := "fnSubstShift", fn := fun _ => fun
  | [d] => { results := [.lit (.bool true)], args := [d] }
  | _ => none }
def fnSubstShiftRow : OpenClaim := { program := "ytmihfbopahoejaa", sum := "05ba469e5c78f33261c719fe79a6105c35324ebf3920cd166323e7cdd956700c", func := "loop.example/depkernel/laws.FnSubstShift", spec := "fnSubstShift", unfollowed := true, recurses := true, plainKeys := false, apart := false }
def FnSubstShiftSaid : Prop := fnSubstShiftRow.holds Try.pinned (OpenSpec.ofChange fnSubstShiftSpec)

/-- ITS FALSE NEIGHBOUR: 'it returns false'. Refute it at one input. -/
def fnSubstShiftWrong : ChangeSpec := { name := "fnSubstShift", fn := fun _ => fun
  | [d] => { results := [.lit (.bool false)], args := [d] }
  | _ => none }
def FnSubstShiftWrongFalsely : Prop := fnSubstShiftRow.holds Try.pinned (OpenSpec.ofChange fnSubstShiftWrong)

/-- 'laws.FnSubstFree': WHATEVER THE INPUT: true; the input reads as it did. -/
def fnSubstFreeSpec : ChangeSpec := { name := "fnSubstFree", fn := fun _ => fun
  | [d] => { results := [.lit (.bool true)], args := [d] }
  | _ => none }
def fnSubstFreeRow : OpenClaim := { program := "ytmihfbopahoejaa", sum := "05ba469e5c78f33261c719fe79a6105c35324ebf3920cd166323e7cdd956700c", func := "loop.example/depkernel/laws.FnSubstFree", spec := "fnSubstFree", unfollowed := true, recurses := true, plainKeys := false, apart := false }
def FnSubstFreeSaid : Prop := fnSubstFreeRow.holds Try.pinned (OpenSpec.ofChange fnSubstFreeSpec)

/-- ITS FALSE NEIGHBOUR: 'it returns false'. Refute it at one input. -/
def fnSubstFreeWrong : ChangeSpec := { name := "fnSubstFree", fn := fun _ => fun
  | [d] => { results := [.lit (.bool false)], args := [d] }
  | _ => none }
def FnSubstFreeWrongFalsely : Prop := fnSubstFreeRow.holds Try.pinned (OpenSpec.ofChange fnSubstFreeWrong)

/-- 'laws.FnSubstCommute': WHATEVER THE INPUT: true; the input reads as it did. -/
def fnSubstCommuteSpec : ChangeSpec := { name := "fnSubstCommute", fn := fun _ => fun
  | [d1, d2] => { results := [.lit (.bool true)], args := [d1, d2] }
  | _ => none }
def fnSubstCommuteRow : OpenClaim := { program := "ytmihfbopahoejaa", sum := "05ba469e5c78f33261c719fe79a6105c35324ebf3920cd166323e7cdd956700c", func := "loop.example/depkernel/laws.FnSubstCommute", spec := "fnSubstCommute", unfollowed := true, recurses := true, plainKeys := false, apart := false }
def FnSubstCommuteSaid : Prop := fnSubstCommuteRow.holds Try.pinned (OpenSpec.ofChange fnSubstCommuteSpec)

/-- ITS FALSE NEIGHBOUR: 'it returns false'. Refute it at one input. -/
def fnSubstCommuteWrong : ChangeSpec := { name := "fnSubstCommute", fn := fun _ => fun
  | [d1, d2] => { results := [.lit (.bool false)], args := [d1, d2] }
  | _ => none }
def FnSubstCommuteWrongFalsely : Prop := fnSubstCommuteRow.holds Try.pinned (OpenSpec.ofChange fnSubstCommuteWrong)

/-- 'laws.FnMaxFree': WHATEVER THE INPUT: true; the input reads as it did. -/
def fnMaxFreeSpec : ChangeSpec := { name := "fnMaxFree", fn := fun _ => fun
  | [d] => { results := [.lit (.bool true)], args := [d] }
  | _ => none }
def fnMaxFreeRow : OpenClaim := { program := "ytmihfbopahoejaa", sum := "05ba469e5c78f33261c719fe79a6105c35324ebf3920cd166323e7cdd956700c", func := "loop.example/depkernel/laws.FnMaxFree", spec := "fnMaxFree", unfollowed := true, recurses := true, plainKeys := false, apart := false }
def FnMaxFreeSaid : Prop := fnMaxFreeRow.holds Try.pinned (OpenSpec.ofChange fnMaxFreeSpec)

/-- ITS FALSE NEIGHBOUR: 'it returns false'. Refute it at one input. -/
def fnMaxFreeWrong : ChangeSpec := { name := "fnMaxFree", fn := fun _ => fun
  | [d] => { results := [.lit (.bool false)], args := [d] }
  | _ => none }
def FnMaxFreeWrongFalsely : Prop := fnMaxFreeRow.holds Try.pinned (OpenSpec.ofChange fnMaxFreeWrong)

/-- 'laws.FnRenameTerm': WHATEVER THE INPUT: true; the input reads as it did. -/
def fnRenameTermSpec : ChangeSpec := { name := "fnRenameTerm", fn := fun _ => fun
  | [d1, d2] => { results := [.lit (.bool true)], args := [d1, d2] }
  | _ => none }
def fnRenameTermRow : OpenClaim := { program := "ytmihfbopahoejaa", sum := "05ba469e5c78f33261c719fe79a6105c35324ebf3920cd166323e7cdd956700c", func := "loop.example/depkernel/laws.FnRenameTerm", spec := "fnRenameTerm", unfollowed := true, recurses := true, plainKeys := false, apart := false }
def FnRenameTermSaid : Prop := fnRenameTermRow.holds Try.pinned (OpenSpec.ofChange fnRenameTermSpec)

/-- ITS FALSE NEIGHBOUR: 'it returns false'. Refute it at one input. -/
def fnRenameTermWrong : ChangeSpec := { name := "fnRenameTerm", fn := fun _ => fun
  | [d1, d2] => { results := [.lit (.bool false)], args := [d1, d2] }
  | _ => none }
def FnRenameTermWrongFalsely : Prop := fnRenameTermRow.holds Try.pinned (OpenSpec.ofChange fnRenameTermWrong)

/-- 'laws.FnRenameShift': WHATEVER THE INPUT: true; the input reads as it did. -/
def fnRenameShiftSpec : ChangeSpec := { name := "fnRenameShift", fn := fun _ => fun
  | [d] => { results := [.lit (.bool true)], args := [d] }
  | _ => none }
def fnRenameShiftRow : OpenClaim := { program := "ytmihfbopahoejaa", sum := "05ba469e5c78f33261c719fe79a6105c35324ebf3920cd166323e7cdd956700c", func := "loop.example/depkernel/laws.FnRenameShift", spec := "fnRenameShift", unfollowed := true, recurses := true, plainKeys := false, apart := false }
def FnRenameShiftSaid : Prop := fnRenameShiftRow.holds Try.pinned (OpenSpec.ofChange fnRenameShiftSpec)

/-- ITS FALSE NEIGHBOUR: 'it returns false'. Refute it at one input. -/
def fnRenameShiftWrong : ChangeSpec := { name := "fnRenameShift", fn := fun _ => fun
  | [d] => { results := [.lit (.bool false)], args := [d] }
  | _ => none }
def FnRenameShiftWrongFalsely : Prop := fnRenameShiftRow.holds Try.pinned (OpenSpec.ofChange fnRenameShiftWrong)

/-- 'laws.FnFreeShift': WHATEVER THE INPUT: true; the input reads as it did. -/
def fnFreeShiftSpec : ChangeSpec := { name := "fnFreeShift", fn := fun _ => fun
  | [d] => { results := [.lit (.bool true)], args := [d] }
  | _ => none }
def fnFreeShiftRow : OpenClaim := { program := "ytmihfbopahoejaa", sum := "05ba469e5c78f33261c719fe79a6105c35324ebf3920cd166323e7cdd956700c", func := "loop.example/depkernel/laws.FnFreeShift", spec := "fnFreeShift", unfollowed := true, recurses := true, plainKeys := false, apart := false }
def FnFreeShiftSaid : Prop := fnFreeShiftRow.holds Try.pinned (OpenSpec.ofChange fnFreeShiftSpec)

/-- ITS FALSE NEIGHBOUR: 'it returns false'. Refute it at one input. -/
def fnFreeShiftWrong : ChangeSpec := { name := "fnFreeShift", fn := fun _ => fun
  | [d] => { results := [.lit (.bool false)], args := [d] }
  | _ => none }
def FnFreeShiftWrongFalsely : Prop := fnFreeShiftRow.holds Try.pinned (OpenSpec.ofChange fnFreeShiftWrong)

/-- 'laws.FnInstantiateClosed': WHATEVER THE INPUT: true; the input reads as it did. -/
def fnInstantiateClosedSpec : ChangeSpec := { name := "fnInstantiateClosed", fn := fun _ => fun
  | [d] => { results := [.lit (.bool true)], args := [d] }
  | _ => none }
def fnInstantiateClosedRow : OpenClaim := { program := "ytmihfbopahoejaa", sum := "05ba469e5c78f33261c719fe79a6105c35324ebf3920cd166323e7cdd956700c", func := "loop.example/depkernel/laws.FnInstantiateClosed", spec := "fnInstantiateClosed", unfollowed := true, recurses := true, plainKeys := false, apart := false }
def FnInstantiateClosedSaid : Prop := fnInstantiateClosedRow.holds Try.pinned (OpenSpec.ofChange fnInstantiateClosedSpec)

/-- ITS FALSE NEIGHBOUR: 'it returns false'. Refute it at one input. -/
def fnInstantiateClosedWrong : ChangeSpec := { name := "fnInstantiateClosed", fn := fun _ => fun
  | [d] => { results := [.lit (.bool false)], args := [d] }
  | _ => none }
def FnInstantiateClosedWrongFalsely : Prop := fnInstantiateClosedRow.holds Try.pinned (OpenSpec.ofChange fnInstantiateClosedWrong)

/-- 'laws.FnRenameSame': WHATEVER THE INPUT: true; the input reads as it did. -/
def fnRenameSameSpec : ChangeSpec := { name := "fnRenameSame", fn := fun _ => fun
  | [d] => { results := [.lit (.bool true)], args := [d] }
  | _ => none }
def fnRenameSameRow : OpenClaim := { program := "ytmihfbopahoejaa", sum := "05ba469e5c78f33261c719fe79a6105c35324ebf3920cd166323e7cdd956700c", func := "loop.example/depkernel/laws.FnRenameSame", spec := "fnRenameSame", unfollowed := true, recurses := true, plainKeys := false, apart := false }
def FnRenameSameSaid : Prop := fnRenameSameRow.holds Try.pinned (OpenSpec.ofChange fnRenameSameSpec)

/-- ITS FALSE NEIGHBOUR: 'it returns false'. Refute it at one input. -/
def fnRenameSameWrong : ChangeSpec := { name := "fnRenameSame", fn := fun _ => fun
  | [d] => { results := [.lit (.bool false)], args := [d] }
  | _ => none }
def FnRenameSameWrongFalsely : Prop := fnRenameSameRow.holds Try.pinned (OpenSpec.ofChange fnRenameSameWrong)

/-- 'laws.FnExactRedexOf': WHATEVER THE INPUT: true; the input reads as it did. -/
def fnExactRedexOfSpec : ChangeSpec := { name := "fnExactRedexOf", fn := fun _ => fun
  | [d] => { results := [.lit (.bool true)], args := [d] }
  | _ => none }
def fnExactRedexOfRow : OpenClaim := { program := "ytmihfbopahoejaa", sum := "05ba469e5c78f33261c719fe79a6105c35324ebf3920cd166323e7cdd956700c", func := "loop.example/depkernel/laws.FnExactRedexOf", spec := "fnExactRedexOf", unfollowed := true, recurses := true, loops := true, plainKeys := false, apart := false }
def FnExactRedexOfSaid : Prop := fnExactRedexOfRow.holds Try.pinned (OpenSpec.ofChange fnExactRedexOfSpec)

/-- ITS FALSE NEIGHBOUR: 'it returns false'. Refute it at one input. -/
def fnExactRedexOfWrong : ChangeSpec := { name := "fnExactRedexOf", fn := fun _ => fun
  | [d] => { results := [.lit (.bool false)], args := [d] }
  | _ => none }
def FnExactRedexOfWrongFalsely : Prop := fnExactRedexOfRow.holds Try.pinned (OpenSpec.ofChange fnExactRedexOfWrong)

/- THE SECOND FORM. 'bulk': how many values and letters a reading holds, each counted each time it is reached (what is shared counts as often as it is met; a slice's spare places count too). A statement '..UptoSaid' is the law's where the arguments, and the package variables that the reading takes, are together of bulk at most 1048576: NARROWER than '..Said'. Prove '..Said' where nothing that the law and all that it calls make is longer than what came in: it says more and counts as full. Else prove '..UptoSaid'. A law counts once. -/
mutual
def uptoBulk {H : Type} : DataW H → Nat
  | .lit (.string bytes) => bytes.length + 1
  | .lit _ => 1
  | .nil => 1
  | .ptr d => uptoBulk d + 1
  | .slice elems spare => uptoBulkAll elems + uptoBulkAll spare + 1
  | .agg parts => uptoBulkAll parts + 1
  | .iface _ d => uptoBulk d + 1
  | .map entries => uptoBulkEntries entries + 1
  | .held _ => 1
def uptoBulkAll {H : Type} : List (DataW H) → Nat
  | [] => 0
  | d :: r => uptoBulk d + uptoBulkAll r
def uptoBulkEntries {H : Type} : List (Lit × DataW H) → Nat
  | [] => 0
  | x :: r => uptoBulkEntry x + uptoBulkEntries r
def uptoBulkEntry {H : Type} : Lit × DataW H → Nat
  | (.string bytes, d) => bytes.length + uptoBulk d + 1
  | (_, d) => uptoBulk d + 1
 end
def uptoSmall : (H : Type) → List (DataW H) → Bool := fun _ ds => decide (uptoBulkAll ds ≤ 1048576)
def OpenSpec.upto (s : _root_.Go.ChangeSpec) : _root_.Go.OpenSpec := { _root_.Go.OpenSpec.ofChange s with cond := some uptoSmall }

/-- 'laws.FnShiftBack', WHERE WHAT IT READS IS OF BULK AT MOST 1048576: true; the input reads as it did. -/
def fnShiftBackUptoRow : OpenClaim := { program := "ytmihfbopahoejaa", sum := "05ba469e5c78f33261c719fe79a6105c35324ebf3920cd166323e7cdd956700c", func := "loop.example/depkernel/laws.FnShiftBack", spec := "fnShiftBack", unfollowed := true, recurses := true, plainKeys := false, apart := false, narrowed := true }
def FnShiftBackUptoSaid : Prop := fnShiftBackUptoRow.holds Try.pinned (OpenSpec.upto fnShiftBackSpec)

/-- 'laws.FnShiftFree', WHERE WHAT IT READS IS OF BULK AT MOST 1048576: true; the input reads as it did. -/
def fnShiftFreeUptoRow : OpenClaim := { program := "ytmihfbopahoejaa", sum := "05ba469e5c78f33261c719fe79a6105c35324ebf3920cd166323e7cdd956700c", func := "loop.example/depkernel/laws.FnShiftFree", spec := "fnShiftFree", unfollowed := true, recurses := true, plainKeys := false, apart := false, narrowed := true }
def FnShiftFreeUptoSaid : Prop := fnShiftFreeUptoRow.holds Try.pinned (OpenSpec.upto fnShiftFreeSpec)

/-- 'laws.FnSubstShift', WHERE WHAT IT READS IS OF BULK AT MOST 1048576: true; the input reads as it did. -/
def fnSubstShiftUptoRow : OpenClaim := { program := "ytmihfbopahoejaa", sum := "05ba469e5c78f33261c719fe79a6105c35324ebf3920cd166323e7cdd956700c", func := "loop.example/depkernel/laws.FnSubstShift", spec := "fnSubstShift", unfollowed := true, recurses := true, plainKeys := false, apart := false, narrowed := true }
def FnSubstShiftUptoSaid : Prop := fnSubstShiftUptoRow.holds Try.pinned (OpenSpec.upto fnSubstShiftSpec)

/-- 'laws.FnSubstFree', WHERE WHAT IT READS IS OF BULK AT MOST 1048576: true; the input reads as it did. -/
def fnSubstFreeUptoRow : OpenClaim := { program := "ytmihfbopahoejaa", sum := "05ba469e5c78f33261c719fe79a6105c35324ebf3920cd166323e7cdd956700c", func := "loop.example/depkernel/laws.FnSubstFree", spec := "fnSubstFree", unfollowed := true, recurses := true, plainKeys := false, apart := false, narrowed := true }
def FnSubstFreeUptoSaid : Prop := fnSubstFreeUptoRow.holds Try.pinned (OpenSpec.upto fnSubstFreeSpec)

/-- 'laws.FnSubstCommute', WHERE WHAT IT READS IS OF BULK AT MOST 1048576: true; the input reads as it did. -/
def fnSubstCommuteUptoRow : OpenClaim := { program := "ytmihfbopahoejaa", sum := "05ba469e5c78f33261c719fe79a6105c35324ebf3920cd166323e7cdd956700c", func := "loop.example/depkernel/laws.FnSubstCommute", spec := "fnSubstCommute", unfollowed := true, recurses := true, plainKeys := false, apart := false, narrowed := true }
def FnSubstCommuteUptoSaid : Prop := fnSubstCommuteUptoRow.holds Try.pinned (OpenSpec.upto fnSubstCommuteSpec)

/-- 'laws.FnMaxFree', WHERE WHAT IT READS IS OF BULK AT MOST 1048576: true; the input reads as it did. -/
def fnMaxFreeUptoRow : OpenClaim := { program := "ytmihfbopahoejaa", sum := "05ba469e5c78f33261c719fe79a6105c35324ebf3920cd166323e7cdd956700c", func := "loop.example/depkernel/laws.FnMaxFree", spec := "fnMaxFree", unfollowed := true, recurses := true, plainKeys := false, apart := false, narrowed := true }
def FnMaxFreeUptoSaid : Prop := fnMaxFreeUptoRow.holds Try.pinned (OpenSpec.upto fnMaxFreeSpec)

/-- 'laws.FnRenameTerm', WHERE WHAT IT READS IS OF BULK AT MOST 1048576: true; the input reads as it did. -/
def fnRenameTermUptoRow : OpenClaim := { program := "ytmihfbopahoejaa", sum := "05ba469e5c78f33261c719fe79a6105c35324ebf3920cd166323e7cdd956700c", func := "loop.example/depkernel/laws.FnRenameTerm", spec := "fnRenameTerm", unfollowed := true, recurses := true, plainKeys := false, apart := false, narrowed := true }
def FnRenameTermUptoSaid : Prop := fnRenameTermUptoRow.holds Try.pinned (OpenSpec.upto fnRenameTermSpec)

/-- 'laws.FnRenameShift', WHERE WHAT IT READS IS OF BULK AT MOST 1048576: true; the input reads as it did. -/
def fnRenameShiftUptoRow : OpenClaim := { program := "ytmihfbopahoejaa", sum := "05ba469e5c78f33261c719fe79a6105c35324ebf3920cd166323e7cdd956700c", func := "loop.example/depkernel/laws.FnRenameShift", spec := "fnRenameShift", unfollowed := true, recurses := true, plainKeys := false, apart := false, narrowed := true }
def FnRenameShiftUptoSaid : Prop := fnRenameShiftUptoRow.holds Try.pinned (OpenSpec.upto fnRenameShiftSpec)

/-- 'laws.FnFreeShift', WHERE WHAT IT READS IS OF BULK AT MOST 1048576: true; the input reads as it did. -/
def fnFreeShiftUptoRow : OpenClaim := { program := "ytmihfbopahoejaa", sum := "05ba469e5c78f33261c719fe79a6105c35324ebf3920cd166323e7cdd956700c", func := "loop.example/depkernel/laws.FnFreeShift", spec := "fnFreeShift", unfollowed := true, recurses := true, plainKeys := false, apart := false, narrowed := true }
def FnFreeShiftUptoSaid : Prop := fnFreeShiftUptoRow.holds Try.pinned (OpenSpec.upto fnFreeShiftSpec)

/-- 'laws.FnInstantiateClosed', WHERE WHAT IT READS IS OF BULK AT MOST 1048576: true; the input reads as it did. -/
def fnInstantiateClosedUptoRow : OpenClaim := { program := "ytmihfbopahoejaa", sum := "05ba469e5c78f33261c719fe79a6105c35324ebf3920cd166323e7cdd956700c", func := "loop.example/depkernel/laws.FnInstantiateClosed", spec := "fnInstantiateClosed", unfollowed := true, recurses := true, plainKeys := false, apart := false, narrowed := true }
def FnInstantiateClosedUptoSaid : Prop := fnInstantiateClosedUptoRow.holds Try.pinned (OpenSpec.upto fnInstantiateClosedSpec)

/-- 'laws.FnRenameSame', WHERE WHAT IT READS IS OF BULK AT MOST 1048576: true; the input reads as it did. -/
def fnRenameSameUptoRow : OpenClaim := { program := "ytmihfbopahoejaa", sum := "05ba469e5c78f33261c719fe79a6105c35324ebf3920cd166323e7cdd956700c", func := "loop.example/depkernel/laws.FnRenameSame", spec := "fnRenameSame", unfollowed := true, recurses := true, plainKeys := false, apart := false, narrowed := true }
def FnRenameSameUptoSaid : Prop := fnRenameSameUptoRow.holds Try.pinned (OpenSpec.upto fnRenameSameSpec)

/-- 'laws.FnExactRedexOf', WHERE WHAT IT READS IS OF BULK AT MOST 1048576: true; the input reads as it did. -/
def fnExactRedexOfUptoRow : OpenClaim := { program := "ytmihfbopahoejaa", sum := "05ba469e5c78f33261c719fe79a6105c35324ebf3920cd166323e7cdd956700c", func := "loop.example/depkernel/laws.FnExactRedexOf", spec := "fnExactRedexOf", unfollowed := true, recurses := true, loops := true, plainKeys := false, apart := false, narrowed := true }
def FnExactRedexOfUptoSaid : Prop := fnExactRedexOfUptoRow.holds Try.pinned (OpenSpec.upto fnExactRedexOfSpec)

end Rows
end Go.Proofs.Ytmihfbopahoejaa
