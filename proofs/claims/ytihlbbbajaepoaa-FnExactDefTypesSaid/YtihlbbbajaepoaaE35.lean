/-
  TeleS.
-/
import Derived.Test.YtihlbbbajaepoaaE06
import Derived.Test.YtihlbbbajaepoaaE11
import Derived.Test.YtihlbbbajaepoaaE12
import Derived.Test.YtihlbbbajaepoaaE17
import Derived.Test.YtihlbbbajaepoaaE31
import Derived.Test.YtihlbbbajaepoaaE33
import Derived.Test.YtihlbbbajaepoaaE34
import Derived.Deep.DeepCutAuto
namespace Go.Proofs.Ytihlbbbajaepoaa
open Go.RowKit
theorem tl_from {w : World} {B : Nat} : ∀ {l : List Tm} {v : Value}, SlX w (fun i => i < B) l v → SlIn w B l v := by
 intro l
 induction l using Tm.ind with
 | h l ih =>
  intro v h
  obtain ⟨a, cap, b, o, rfl, h1, h2, h3⟩ := h.open
  refine ⟨a, cap, b, o, rfl, h1, fun hn => ⟨(h2 hn).1, Nat.not_lt.1 (h2 hn).2.1⟩, RowAt.of_get fun i hi => ?_⟩
  obtain ⟨s, c0, c1, c2, hs⟩ := h3 i hi
  exact TmAt_iff.2 ⟨s, c0, c1, c2, ih i hi hs⟩
def TlPost (w : World) (T : Tm) (e : Ending) (w' : World) : Prop := Below w.heap.size w w' ∧ ∃ (a : Option Addr) (c : Nat), e = .returned (.agg #[.int .i64 T.kind, .int .i64 T.num, .slice a T.kids.length c]) ∧ SlIn w' w.heap.size T.kids (.slice a T.kids.length c)
theorem MadePost.tl {w w' : World} {T : Tm} {e : Ending} (h : MadePost w T e w') : TlPost w T e w' := by
 obtain ⟨hb, v, rfl, s, F, rfl, hs, -, hF⟩ := h
 obtain ⟨a, c, rfl⟩ := hs.form
 exact ⟨hb, a, c, rfl, hs.sl fun g hg => (hF g hg).1⟩
theorem tl_copyS (t : Tm) (ht : sizes t.kids ≤ 1000000) (w : World) (s : Value) (hs : SlIn w 0 t.kids s) : Calls Try.prog 50 #[.agg #[.int .i64 t.kind, .int .i64 t.num, s]] w (TlPost w t) := by
 have h := lcopy_any t.kids t.kind t.num w s ht hs
 rw [Tm.eta] at h
 exact h.mono fun _ _ h => h.tl
end Go.Proofs.Ytihlbbbajaepoaa
