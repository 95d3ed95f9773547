/-
  No cell of these rows narrows 'for every input' (looked for: loops, veiled, ifaces, maps, wideKeys, modest, calm, conditions, laid).
  DERIVED. THE GIVEN ROWS OF THIS SEAT. 4 by the template 'for every input the law returns true; each argument reads behind the call as it read before'; 0 by the template 'total and deterministic' (their statements: YtfnfbpdhploknaaTotals.lean).
  GIVEN WITH THE SEED: the statements are not yours to turn. If you find one false, say at which input.
  Laid BY PROGRAM, IN A SANDBOX (cutbox-rows.mjs): the forced cells as the released guide's own fill.sh prints them over the translation 65e52d992b203c00… (all of the seat's roots in one cut). By AI agents, Wed Nov 11 2026. No macro, syntax, notation, axiom, sorry.
-/
import Derived.Test.YtfnfbpdhploknaaChecked
import GoSem.Claim
import GoSem.ClaimJoined
import GoSem.ClaimMapViews
import Derived.JoinedTies
import Derived.KernelRfl
namespace Go.Proofs.Ytfnfbpdhploknaa
/- THE CELL 'sum', in the pinned program and in every row, IS THE sha256 OF THE DUMP (.gsa) THAT YtfnfbpdhploknaaProg.lean LOADS. Nothing in Lean hashes anything: it is a label: what it is worth is what the hold of that sum in a sandbox is worth. -/
noncomputable def Try.pinned : Pinned := { name := "ytfnfbpdhploknaa", sum := "65e52d992b203c00c433e62fc1bb73cb2bf2846555244772c074308090b284bc", checked := Try.checked }
namespace Rows
def none {H : Type} : Left H := { results := [], args := [] }

/-- 'laws.FnFreshName': WHATEVER THE INPUT: true; the input reads as it did. -/
def fnFreshNameSpec : ChangeSpec := { name := "fnFreshName", fn := fun _ => fun
  | [d] => { results := [.lit (.bool true)], args := [d] }
  | _ => none }
def fnFreshNameRow : OpenClaim := { program := "ytfnfbpdhploknaa", sum := "65e52d992b203c00c433e62fc1bb73cb2bf2846555244772c074308090b284bc", func := "loop.example/depkernel/laws.FnFreshName", spec := "fnFreshName", apart := false }
def FnFreshNameSaid : Prop := fnFreshNameRow.holds Try.pinned (OpenSpec.ofChange fnFreshNameSpec)

/-- ITS FALSE NEIGHBOUR: 'it returns false'. Refute it at one input. -/
def fnFreshNameWrong : ChangeSpec := { name := "fnFreshName", fn := fun _ => fun
  | [d] => { results := [.lit (.bool false)], args := [d] }
  | _ => none }
def FnFreshNameWrongFalsely : Prop := fnFreshNameRow.holds Try.pinned (OpenSpec.ofChange fnFreshNameWrong)

/-- 'laws.FnFreshAdd': WHATEVER THE INPUT: true; the input reads as it did. -/
def fnFreshAddSpec : ChangeSpec := { name := "fnFreshAdd", fn := fun _ => fun
  | [d] => { results := [.lit (.bool true)], args := [d] }
  | _ => none }
def fnFreshAddRow : OpenClaim := { program := "ytfnfbpdhploknaa", sum := "65e52d992b203c00c433e62fc1bb73cb2bf2846555244772c074308090b284bc", func := "loop.example/depkernel/laws.FnFreshAdd", spec := "fnFreshAdd", apart := false }
def FnFreshAddSaid : Prop := fnFreshAddRow.holds Try.pinned (OpenSpec.ofChange fnFreshAddSpec)

/-- ITS FALSE NEIGHBOUR: 'it returns false'. Refute it at one input. -/
def fnFreshAddWrong : ChangeSpec := { name := "fnFreshAdd", fn := fun _ => fun
  | [d] => { results := [.lit (.bool false)], args := [d] }
  | _ => none }
def FnFreshAddWrongFalsely : Prop := fnFreshAddRow.holds Try.pinned (OpenSpec.ofChange fnFreshAddWrong)

/-- 'laws.FnExactNamesValid': WHATEVER THE INPUT: true; the input reads as it did. -/
def fnExactNamesValidSpec : ChangeSpec := { name := "fnExactNamesValid", fn := fun _ => fun
  | [d] => { results := [.lit (.bool true)], args := [d] }
  | _ => none }
def fnExactNamesValidRow : OpenClaim := { program := "ytfnfbpdhploknaa", sum := "65e52d992b203c00c433e62fc1bb73cb2bf2846555244772c074308090b284bc", func := "loop.example/depkernel/laws.FnExactNamesValid", spec := "fnExactNamesValid", apart := false }
def FnExactNamesValidSaid : Prop := fnExactNamesValidRow.holds Try.pinned (OpenSpec.ofChange fnExactNamesValidSpec)

/-- ITS FALSE NEIGHBOUR: 'it returns false'. Refute it at one input. -/
def fnExactNamesValidWrong : ChangeSpec := { name := "fnExactNamesValid", fn := fun _ => fun
  | [d] => { results := [.lit (.bool false)], args := [d] }
  | _ => none }
def FnExactNamesValidWrongFalsely : Prop := fnExactNamesValidRow.holds Try.pinned (OpenSpec.ofChange fnExactNamesValidWrong)

/-- 'laws.FnExactFreshName': WHATEVER THE INPUT: true; the input reads as it did. -/
def fnExactFreshNameSpec : ChangeSpec := { name := "fnExactFreshName", fn := fun _ => fun
  | [d] => { results := [.lit (.bool true)], args := [d] }
  | _ => none }
def fnExactFreshNameRow : OpenClaim := { program := "ytfnfbpdhploknaa", sum := "65e52d992b203c00c433e62fc1bb73cb2bf2846555244772c074308090b284bc", func := "loop.example/depkernel/laws.FnExactFreshName", spec := "fnExactFreshName", apart := false }
def FnExactFreshNameSaid : Prop := fnExactFreshNameRow.holds Try.pinned (OpenSpec.ofChange fnExactFreshNameSpec)

/-- ITS FALSE NEIGHBOUR: 'it returns false'. Refute it at one input. -/
def fnExactFreshNameWrong : ChangeSpec := { name := "fnExactFreshName", fn := fun _ => fun
  | [d] => { results := [.lit (.bool false)], args := [d] }
  | _ => none }
def FnExactFreshNameWrongFalsely : Prop := fnExactFreshNameRow.holds Try.pinned (OpenSpec.ofChange fnExactFreshNameWrong)

/- THE SECOND FORM. 'bulk': how many values and letters a reading holds, each counted each time it is reached (what is shared counts as often as it is met; a slice's spare places count too). A statement '..UptoSaid' is the law's where the arguments, and the package variables that the reading takes, are together of bulk at most 1048576: NARROWER than '..Said'. Prove '..Said' where nothing that the law and all that it calls make is longer than what came in: it says more and counts as full. Else prove '..UptoSaid'. A law counts once. -/
mutual
def uptoBulk {H : Type} : DataW H → Nat
  | .lit (.string bytes) => bytes.length + 1
  | .lit _ => 1
  | .nil => 1
  | .ptr d => uptoBulk d + 1
  | .slice elems spare => uptoBulkAll elems + uptoBulkAll spare + 1
  | .agg parts => uptoBulkAll parts + 1
  | .iface _ d => uptoBulk d + 1
  | .map entries => uptoBulkEntries entries + 1
  | .held _ => 1
def uptoBulkAll {H : Type} : List (DataW H) → Nat
  | [] => 0
  | d :: r => uptoBulk d + uptoBulkAll r
def uptoBulkEntries {H : Type} : List (Lit × DataW H) → Nat
  | [] => 0
  | x :: r => uptoBulkEntry x + uptoBulkEntries r
def uptoBulkEntry {H : Type} : Lit × DataW H → Nat
  | (.string bytes, d) => bytes.length + uptoBulk d + 1
  | (_, d) => uptoBulk d + 1
 end
def uptoSmall : (H : Type) → List (DataW H) → Bool := fun _ ds => decide (uptoBulkAll ds ≤ 1048576)
def OpenSpec.upto (s : _root_.Go.ChangeSpec) : _root_.Go.OpenSpec := { _root_.Go.OpenSpec.ofChange s with cond := some uptoSmall }

/-- 'laws.FnFreshName', WHERE WHAT IT READS IS OF BULK AT MOST 1048576: true; the input reads as it did. -/
def fnFreshNameUptoRow : OpenClaim := { program := "ytfnfbpdhploknaa", sum := "65e52d992b203c00c433e62fc1bb73cb2bf2846555244772c074308090b284bc", func := "loop.example/depkernel/laws.FnFreshName", spec := "fnFreshName", apart := false, narrowed := true }
def FnFreshNameUptoSaid : Prop := fnFreshNameUptoRow.holds Try.pinned (OpenSpec.upto fnFreshNameSpec)

/-- 'laws.FnFreshAdd', WHERE WHAT IT READS IS OF BULK AT MOST 1048576: true; the input reads as it did. -/
def fnFreshAddUptoRow : OpenClaim := { program := "ytfnfbpdhploknaa", sum := "65e52d992b203c00c433e62fc1bb73cb2bf2846555244772c074308090b284bc", func := "loop.example/depkernel/laws.FnFreshAdd", spec := "fnFreshAdd", apart := false, narrowed := true }
def FnFreshAddUptoSaid : Prop := fnFreshAddUptoRow.holds Try.pinned (OpenSpec.upto fnFreshAddSpec)

/-- 'laws.FnExactNamesValid', WHERE WHAT IT READS IS OF BULK AT MOST 1048576: true; the input reads as it did. -/
def fnExactNamesValidUptoRow : OpenClaim := { program := "ytfnfbpdhploknaa", sum := "65e52d992b203c00c433e62fc1bb73cb2bf2846555244772c074308090b284bc", func := "loop.example/depkernel/laws.FnExactNamesValid", spec := "fnExactNamesValid", apart := false, narrowed := true }
def FnExactNamesValidUptoSaid : Prop := fnExactNamesValidUptoRow.holds Try.pinned (OpenSpec.upto fnExactNamesValidSpec)

/-- 'laws.FnExactFreshName', WHERE WHAT IT READS IS OF BULK AT MOST 1048576: true; the input reads as it did. -/
def fnExactFreshNameUptoRow : OpenClaim := { program := "ytfnfbpdhploknaa", sum := "65e52d992b203c00c433e62fc1bb73cb2bf2846555244772c074308090b284bc", func := "loop.example/depkernel/laws.FnExactFreshName", spec := "fnExactFreshName", apart := false, narrowed := true }
def FnExactFreshNameUptoSaid : Prop := fnExactFreshNameUptoRow.holds Try.pinned (OpenSpec.upto fnExactFreshNameSpec)

end Rows
end Go.Proofs.Ytfnfbpdhploknaa
