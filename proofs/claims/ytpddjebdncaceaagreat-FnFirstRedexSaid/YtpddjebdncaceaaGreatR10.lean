/-
  Num, Open.
-/
import Derived.Test.YtpddjebdncaceaaGreatR01
import Derived.Test.YtpddjebdncaceaaGreatR02
import Derived.Carry
import Derived.Deep.Slices
import Derived.Deep.Strs
import Derived.OpenShut
import Derived.ProofKit
import Derived.Test.YtpddjebdncaceaaGreatProg
import Derived.Test.YtpddjebdncaceaaGreatRows
import Derived.WalkSpells
namespace Go.Proofs.YtpddjebdncaceaaGreat
open Go.RowKit
def Made (B : Nat) (t : Tm) (v : Value) (w : World) : Prop := ∃ s F, v = .agg #[.int .i64 t.kind, .int .i64 t.num, s] ∧ SlOwn w t.kids s F ∧ F.Nodup ∧ ∀ g ∈ F, B ≤ g ∧ g < w.heap.size
def VarAt (g : Nat) (k n : Int) (s : Value) (w : World) : Prop := w.heap[g]? = some (.cells #[.int .i64 k, .int .i64 n, s] 34 (0, 0))
theorem VarAt.facts {g : Nat} {k n : Int} {s : Value} {w : World} (h : VarAt g k n s w) : g < w.heap.size ∧ w.cell? ⟨g, 0, none⟩ = some (.int .i64 k) ∧ w.cell? ⟨g, 1, none⟩ = some (.int .i64 n) ∧ w.cell? ⟨g, 2, none⟩ = some s ∧ ∀ i, w.frozen? ⟨g, i, none⟩ = false := by
 obtain ⟨h1, h2, h3⟩ := block_of_cells h
 exact ⟨h1, h2 0, h2 1, h2 2, h3⟩
theorem VarAt.below {g : Nat} {k n : Int} {s : Value} {w w' : World} (h : VarAt g k n s w) (hb : Below w.heap.size w w') : VarAt g k n s w' := (hb.block g h.facts.1).trans h
theorem VarAt.far {g : Nat} {k n : Int} {s : Value} {w : World} (h : VarAt g k n s w) {p : Addr} (hp : g ≠ p.block) (u : Value) : VarAt g k n s (w.setCell p u) := (Below.heap_setCell w p u g hp).trans h
theorem VarAt.far3 {g : Nat} {k n : Int} {s : Value} {w : World} (h : VarAt g k n s w) {g' : Nat} (hp : g ≠ g') (a b c : Nat) (x y z : Value) : VarAt g k n s (((w.setCell ⟨g', a, none⟩ x).setCell ⟨g', b, none⟩ y).setCell ⟨g', c, none⟩ z) :=
 ((h.far (p := ⟨g', a, none⟩) hp _).far (p := ⟨g', b, none⟩) hp _).far (p := ⟨g', c, none⟩) hp _
theorem VarAt.set {g : Nat} {k n k' n' : Int} {s s' : Value} {w : World} (h : VarAt g k n s w) : VarAt g k' n' s' (((w.setCell ⟨g, 0, none⟩ (.int .i64 k')).setCell ⟨g, 1, none⟩ (.int .i64 n')).setCell ⟨g, 2, none⟩ s') := by
 have := block_set (block_set (block_set h 0 (.int .i64 k')) 1 (.int .i64 n')) 2 s'
 simpa [VarAt] using this
theorem VarAt.new (w : World) (k n : Int) (s : Value) : VarAt w.heap.size k n s (w.alloc (.cells #[.int .i64 k, .int .i64 n, s] 34)) := heap_new _ _
end Go.Proofs.YtpddjebdncaceaaGreat
namespace Go.Proofs.YtpddjebdncaceaaGreat
open Go.ChangeShapes Go.WideShapes Go.ChangeAt Go.RowKit Go.Deep
theorem own : ownKnob Tryz.prog.godebug = none := by kernel_rfl
section
variable {H : Type} {enc : TypeId × Value → H} {W : World}
set_option maxRecDepth 100000 in
theorem stays_all (hl : laidOutB Tryz.prog = true) {W' : World} {sp : Nat → Bool} (hb : Below W.heap.size W W') : ∀ (ts : List TypeId) (vs : List Value) (ds : List (DataW H)) (ps : List MemPlace), (∀ t ∈ ts, Tryz.prog.readableRec t = true ∧ t < Tryz.prog.types.size) →
  DataW.TrodAll enc Tryz.prog W 0 (fun _ => true) true ts vs ds ps → (∀ p ∈ ps, p.block < W.heap.size) → (∀ p ∈ ps, sp p.block = true) → DataW.TrodAll enc Tryz.prog W' 0 sp true ts vs ds ps
 | [], [], [], _, _, h, _, _ => h
 | t :: ts, v :: vs, d :: ds, ps, hr, ⟨p, q, h0, h1, e⟩, hlt, hsp => by
  subst e
  refine ⟨p, q, WideElems.Trod_stays hl (hr t (by simp)).1 (hr t (by simp)).2 h0 (fun x hx => hb.same (hlt x (by simp [hx]))) (fun x hx => hsp x (by simp [hx])), ?_, rfl⟩
  exact stays_all hl hb ts vs ds q (fun t ht => hr t (by simp [ht])) h1 (fun x hx => hlt x (by simp [hx])) (fun x hx => hsp x (by simp [hx]))
set_option maxRecDepth 100000 in
theorem law_post {f : Func} {s : ChangeSpec} {W' : World} {args : Array Value} {ds gs : List (DataW H)} {before : List MemPlace} (hf : f.resultTypes = #[4]) (hv : s.vars = [])
  (hs : ∀ gs, gs = [] → s.fn H (ds ++ gs) = { results := [.lit (.bool true)], args := ds }) (hr : ∀ t ∈ f.params.toList, Tryz.prog.readableRec t = true ∧ t < Tryz.prog.types.size)
  (hl : laidOutB Tryz.prog = true) (hW : DataW.Whole enc Tryz.prog f.params.toList s.vars false W args.toList ds gs before) (hb : Below W.heap.size W W') : s.post enc Tryz.prog f false true false false W args (.bool true) W' := by
 have hW0 := hW
 obtain ⟨p, q, hA, hV, rfl, _, _⟩ := hW
 have hlt := fun x hx => hW0.lt x hx
 have hg : gs = [] ∧ q = [] := by
  rw [hv] at hV
  cases gs with
  | nil => exact ⟨rfl, hV⟩
  | cons g gs => exact absurd hV (by simp [DataW.TrodVars])
 obtain ⟨rfl, rfl⟩ := hg
 refine ⟨ds, [], p ++ [], [], p, [], hW0, ?_, ?_, ?_, hb.frame _, fun h => by cases h⟩
 ·rw [hs [] rfl, hf]
  exact ⟨[], [], shut_bool Tryz.underlying4 _, rfl, rfl⟩
 ·rw [hs [] rfl]
  exact stays_all hl hb _ _ _ _ hr hA (fun x hx => hlt x (by simp [hx])) (fun x hx => by simpa using hlt x (by simp [hx]))
 ·rw [hv, hs [] rfl]
  rfl
end
end Go.Proofs.YtpddjebdncaceaaGreat
namespace Go.Proofs.YtpddjebdncaceaaGreat
open Go.ChangeShapes Go.WideShapes Go.ChangeAt Go.RowKit Go.Deep
instance : Inhabited Tm := ⟨.mk 0 0 []⟩
section
variable {H : Type} {enc : TypeId × Value → H} {W : World}
end
end Go.Proofs.YtpddjebdncaceaaGreat
