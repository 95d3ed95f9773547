/-
  Brg, Norm, TeleS.
-/
import Derived.Test.YteeafpnjpcgfaaaGreatB04
import Derived.Test.YteeafpnjpcgfaaaGreatB06
import Derived.Test.YteeafpnjpcgfaaaGreatB20
import Derived.Test.YteeafpnjpcgfaaaGreatB24
import Derived.Test.YteeafpnjpcgfaaaGreatB28
import Derived.Test.YteeafpnjpcgfaaaGreatB29
import Derived.Test.YteeafpnjpcgfaaaGreatB33
import Derived.Test.YteeafpnjpcgfaaaGreatB41
import Derived.ControlIn
import Derived.Deep.DeepCutAuto
import Derived.OrdersIn
import Derived.RangeFuncCalls
namespace Go.Proofs.YteeafpnjpcgfaaaGreat
open Go.RowKit
set_option maxRecDepth 100000 in
theorem outside_any (w : World) : Calls Tryz.prog 87 #[] w fun e w' => e = .returned (.agg #[.bool false, .bool false]) ∧ Below w.heap.size w w' := by
 go_enter Tryz.func87, Tryz.ntmps87
 go_wp2_with fail
 refine bodyPost_ret (v := .agg #[.bool false, .bool false]) (by simp [results, Tryz.results87, go_sem, *]) rfl ⟨rfl, ?_⟩
 exact below1 _ _
end Go.Proofs.YteeafpnjpcgfaaaGreat
namespace Go.Proofs.YteeafpnjpcgfaaaGreat
open Go.RowKit
theorem tl_from {w : World} {B : Nat} : ∀ {l : List Tm} {v : Value}, SlX w (fun i => i < B) l v → SlIn w B l v := by
 intro l
 induction l using Tm.ind with
 | h l ih =>
  intro v h
  obtain ⟨a, cap, b, o, rfl, h1, h2, h3⟩ := h.open
  refine ⟨a, cap, b, o, rfl, h1, fun hn => ⟨(h2 hn).1, Nat.not_lt.1 (h2 hn).2.1⟩, RowAt.of_get fun i hi => ?_⟩
  obtain ⟨s, c0, c1, c2, hs⟩ := h3 i hi
  exact TmAt_iff.2 ⟨s, c0, c1, c2, ih i hi hs⟩
def TlPost (w : World) (T : Tm) (e : Ending) (w' : World) : Prop := Below w.heap.size w w' ∧ ∃ (a : Option Addr) (c : Nat), e = .returned (.agg #[.int .i64 T.kind, .int .i64 T.num, .slice a T.kids.length c]) ∧ SlIn w' w.heap.size T.kids (.slice a T.kids.length c)
theorem MadePost.tl {w w' : World} {T : Tm} {e : Ending} (h : MadePost w T e w') : TlPost w T e w' := by
 obtain ⟨hb, v, rfl, s, F, rfl, hs, -, hF⟩ := h
 obtain ⟨a, c, rfl⟩ := hs.form
 exact ⟨hb, a, c, rfl, hs.sl fun g hg => (hF g hg).1⟩
theorem tl_copyS (t : Tm) (ht : sizes t.kids ≤ 1000000) (w : World) (s : Value) (hs : SlIn w 0 t.kids s) : Calls Tryz.prog 52 #[.agg #[.int .i64 t.kind, .int .i64 t.num, s]] w (TlPost w t) := by
 have h := lcopy_any t.kids t.kind t.num w s ht hs
 rw [Tm.eta] at h
 exact h.mono fun _ _ h => h.tl
end Go.Proofs.YteeafpnjpcgfaaaGreat
namespace Go.Proofs.YteeafpnjpcgfaaaGreat
open Go
def noDefer (ops : Array Oper) : Bool := ops.all fun o => match o.op with | .defer _ => false | _ => true
theorem noDefer_spec {ops : Array Oper} (h : noDefer ops = true) {j : Nat} {o : Oper} (hj : ops[j]? = some o) : ∀ c, o.op ≠ .defer c := by
 intro c hc
 unfold noDefer at h
 rw [Array.all_eq_true'] at h
 have := h o (Array.mem_of_getElem? hj)
 rw [hc] at this
 cases this
section
variable {P : Program} {ops : Array Oper} {Q : Exit → Act → World → Prop} {md : Region.Mode} {l n : Nat}
theorem uponIn_of {o : Oper} {a : Act} {K : Act → World → Prop} {r : Result Next} (h : o.upon P a K Q r) : o.uponIn (Fence.wide.inRound l) n P a K Q r := by
 unfold Oper.upon at h
 unfold Oper.uponIn
 split at h
 ·exact h
 ·exact h
 ·exact h
 ·exact ⟨fun h => (by cases h), CallsIn.inRound l (callsIn_wide.2 h)⟩
 ·refine ⟨fun h => (by cases h), fun c cs _ => ?_⟩
  obtain ⟨v, w', h1, h2⟩ := h c cs
  exact ⟨v, w', h1, stepsIn_wide.2 h2⟩
 ·exact h
 ·exact h.elim
theorem wpOpIn_of (hnd : noDefer ops = true) (ho : ¬ LetsOut Q) {i : Nat} {K : Act → World → Prop} {a : Act} {w : World} (h : wpOp P ops Q i K a w) : wpOpIn (Fence.wide.inRound l) n P ops Q i K a w := by
 unfold wpOp at h
 unfold wpOpIn
 split
 ·rename_i hi
  simpa [hi] using h
 ·rename_i o hoi
  have ho' := ho
  simp only [hoi] at h
  split
  ·rename_i hw
   simp only [hw, if_true] at h
   refine ⟨fun _ _ => trivial, ?_⟩
   rw [Oper.semAt_eq _ _ _ (noDefer_spec hnd hoi)]
   rcases h with h | ⟨-, h⟩
   ·exact uponIn_of h
   ·exact absurd h ho'
  ·rename_i hw
   simp only [hw] at h
   exact ⟨fun _ _ => trivial, h⟩
theorem wpAnyIn_of (hnd : noDefer ops = true) (ho : ¬ LetsOut Q) : ∀ (fuel : Nat) (L : Array Bool) (a : Act) (w : World), wpAny P md ops Q fuel L a w → wpAnyIn (Fence.wide.inRound l) n P md ops Q fuel L a w
 | 0, _, _, _, h => h
 | fuel + 1, _, _, _, h => ⟨h.1, fun i hi => wpOpIn_mono (fun a' w' h' => wpAnyIn_of hnd ho fuel _ a' w' h') (wpOpIn_of hnd ho (h.2 i hi))⟩
theorem AnyTwo.beginIn {id : Nat} {a : Act} {w : World} (S1 S2 : World → Prop) (m : Nat) (hm : P.follows .mixedOrders = true) (hnd : noDefer ops = true) (ho : ¬ LetsOut Q)
  (h : AnyTwo P .any ops Q S1 S2 m ops.size (Array.replicate ops.size false) a w.drew) : (Code.region id ops true).wpIn (Fence.wide.inRound l) n P Q a w :=
 wpIn_region_any hm (wpAnyIn_of hnd ho _ _ _ _ (AnyTwo.any _ _ _ _ h))
theorem AnyTwo.beginN {id : Nat} {a : Act} {w : World} (S1 S2 : World → Prop) (m : Nat) (hm : P.follows .mixedOrders = true) (hnd : noDefer ops = true)
  (h : AnyTwo P .any ops (fun e a w => e = .normal ∧ Q .normal a w) S1 S2 m ops.size (Array.replicate ops.size false) a w.drew) : (Code.region id ops true).wpIn (Fence.wide.inRound l) n P Q a w :=
 wpIn_mono (AnyTwo.beginIn S1 S2 m hm hnd (fun ⟨_, _, h⟩ => nomatch h.1) h) (fun e a w h => by rw [h.1]; exact h.2)
end
end Go.Proofs.YteeafpnjpcgfaaaGreat
