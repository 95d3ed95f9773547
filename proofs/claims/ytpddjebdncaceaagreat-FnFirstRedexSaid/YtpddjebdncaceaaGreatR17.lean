/-
  SpecT, OpenB, SpecK.
-/
import Derived.Test.YtpddjebdncaceaaGreatR03
import Derived.Test.YtpddjebdncaceaaGreatR07
import Derived.Test.YtpddjebdncaceaaGreatR10
import Derived.Test.YtpddjebdncaceaaGreatR11
import Derived.Test.YtpddjebdncaceaaGreatR12
import Derived.Test.YtpddjebdncaceaaGreatR13
namespace Go.Proofs.YtpddjebdncaceaaGreat
open Go.RowKit
def MadePost (w : World) (T : Tm) (e : Ending) (w' : World) : Prop := Below w.heap.size w w' ∧ ∃ v, e = .returned v ∧ Made w.heap.size T v w'
theorem hold2_below {w w' : World} {g bb o : Nat} {k : Int} {v v2 : Value} {k1 n1 : Int}
  (h : (g < w.heap.size ∧ bb < w.heap.size) ∧ w.cell? ⟨g, 0, none⟩ = some (.int .i64 k) ∧ w.cell? ⟨g, 2, none⟩ = some v ∧ w.cell? ⟨bb, o, none⟩ = some (.int .i64 k1) ∧ w.cell? ⟨bb, o + 1, none⟩ = some (.int .i64 n1) ∧ w.cell? ⟨bb, o + 2, none⟩ = some v2)
  (hb : Below w.heap.size w w') :
  (g < w'.heap.size ∧ bb < w'.heap.size) ∧ w'.cell? ⟨g, 0, none⟩ = some (.int .i64 k) ∧ w'.cell? ⟨g, 2, none⟩ = some v ∧ w'.cell? ⟨bb, o, none⟩ = some (.int .i64 k1) ∧ w'.cell? ⟨bb, o + 1, none⟩ = some (.int .i64 n1) ∧ w'.cell? ⟨bb, o + 2, none⟩ = some v2 := by
 obtain ⟨⟨z0, z1⟩, h1, h2, h3, h4, h5⟩ := h
 have := hb.size
 exact ⟨⟨by omega, by omega⟩, (hb.cell (p := ⟨g, 0, none⟩) z0).trans h1, (hb.cell (p := ⟨g, 2, none⟩) z0).trans h2, (hb.cell (p := ⟨bb, o, none⟩) z1).trans h3, (hb.cell (p := ⟨bb, o + 1, none⟩) z1).trans h4, (hb.cell (p := ⟨bb, o + 2, none⟩) z1).trans h5⟩
theorem hold2_grown {w w' : World} {row : Option Nat} {g bb o : Nat} {k : Int} {v v2 : Value} {k1 n1 : Int}
  (h : (g < w.heap.size ∧ bb < w.heap.size) ∧ w.cell? ⟨g, 0, none⟩ = some (.int .i64 k) ∧ w.cell? ⟨g, 2, none⟩ = some v ∧ w.cell? ⟨bb, o, none⟩ = some (.int .i64 k1) ∧ w.cell? ⟨bb, o + 1, none⟩ = some (.int .i64 n1) ∧ w.cell? ⟨bb, o + 2, none⟩ = some v2)
  (hb : w.grownBy w' row) (hn : some g ≠ row ∧ some bb ≠ row) :
  (g < w'.heap.size ∧ bb < w'.heap.size) ∧ w'.cell? ⟨g, 0, none⟩ = some (.int .i64 k) ∧ w'.cell? ⟨g, 2, none⟩ = some v ∧ w'.cell? ⟨bb, o, none⟩ = some (.int .i64 k1) ∧ w'.cell? ⟨bb, o + 1, none⟩ = some (.int .i64 n1) ∧ w'.cell? ⟨bb, o + 2, none⟩ = some v2 := by
 obtain ⟨⟨z0, z1⟩, h1, h2, h3, h4, h5⟩ := h
 have := hb.size
 exact ⟨⟨by omega, by omega⟩, (hb.cell_far ⟨g, 0, none⟩ z0 hn.1).trans h1, (hb.cell_far ⟨g, 2, none⟩ z0 hn.1).trans h2, (hb.cell_far ⟨bb, o, none⟩ z1 hn.2).trans h3, (hb.cell_far ⟨bb, o + 1, none⟩ z1 hn.2).trans h4, (hb.cell_far ⟨bb, o + 2, none⟩ z1 hn.2).trans h5⟩
theorem hold2_set {w : World} {p : Addr} {u : Value} {g bb o : Nat} {k : Int} {v v2 : Value} {k1 n1 : Int}
  (h : (g < w.heap.size ∧ bb < w.heap.size) ∧ w.cell? ⟨g, 0, none⟩ = some (.int .i64 k) ∧ w.cell? ⟨g, 2, none⟩ = some v ∧ w.cell? ⟨bb, o, none⟩ = some (.int .i64 k1) ∧ w.cell? ⟨bb, o + 1, none⟩ = some (.int .i64 n1) ∧ w.cell? ⟨bb, o + 2, none⟩ = some v2)
  (hg : p.block ≠ g) (hb : p.block ≠ bb) :
  (g < (w.setCell p u).heap.size ∧ bb < (w.setCell p u).heap.size) ∧ (w.setCell p u).cell? ⟨g, 0, none⟩ = some (.int .i64 k) ∧ (w.setCell p u).cell? ⟨g, 2, none⟩ = some v ∧ (w.setCell p u).cell? ⟨bb, o, none⟩ = some (.int .i64 k1) ∧ (w.setCell p u).cell? ⟨bb, o + 1, none⟩ = some (.int .i64 n1) ∧ (w.setCell p u).cell? ⟨bb, o + 2, none⟩ = some v2 := by
 obtain ⟨⟨z0, z1⟩, h1, h2, h3, h4, h5⟩ := h
 have hz : (w.setCell p u).heap.size = w.heap.size := by simp [World.setCell]
 exact ⟨⟨by rw [hz]; exact z0, by rw [hz]; exact z1⟩, (World.cell?_setCell_far w p _ u hg).trans h1, (World.cell?_setCell_far w p _ u hg).trans h2, (World.cell?_setCell_far w p _ u hb).trans h3, (World.cell?_setCell_far w p _ u hb).trans h4, (World.cell?_setCell_far w p _ u hb).trans h5⟩
theorem VarAt.grown {g : Nat} {k n : Int} {s : Value} {w w' : World} {row : Option Nat} (h : VarAt g k n s w) (hb : w.grownBy w' row) (hn : some g ≠ row) : VarAt g k n s w' := (hb.block g h.facts.1 hn).trans h
theorem VarAt.set2 {g : Nat} {k n : Int} {s s' : Value} {w : World} (h : VarAt g k n s w) : VarAt g k n s' (w.setCell ⟨g, 2, none⟩ s') := by
 have := block_set h 2 s'
 simpa [VarAt] using this
theorem var_new1 (w : World) (o : Obj) (k n : Int) (s : Value) : VarAt (w.heap.size + 1) k n s ((w.alloc o).alloc (.cells #[.int .i64 k, .int .i64 n, s] 34)) := by
 have := VarAt.new (w.alloc o) k n s
 rwa [show (w.alloc o).heap.size = w.heap.size + 1 by simp] at this
theorem var_new2 (w : World) (o o' : Obj) (k n : Int) (s : Value) : VarAt (w.heap.size + 1 + 1) k n s (((w.alloc o).alloc o').alloc (.cells #[.int .i64 k, .int .i64 n, s] 34)) := by
 have := VarAt.new ((w.alloc o).alloc o') k n s
 rwa [show ((w.alloc o).alloc o').heap.size = w.heap.size + 1 + 1 by simp] at this
def g3x (w : World) (g bb o : Nat) (k : Int) (v v2 : Value) (k1 n1 : Int) : Prop := (g < w.heap.size ∧ bb < w.heap.size) ∧ w.cell? ⟨g, 0, none⟩ = some (.int .i64 k) ∧ w.cell? ⟨g, 2, none⟩ = some v ∧ w.cell? ⟨bb, o, none⟩ = some (.int .i64 k1) ∧ w.cell? ⟨bb, o + 1, none⟩ = some (.int .i64 n1) ∧ w.cell? ⟨bb, o + 2, none⟩ = some v2
theorem root_len {t : Tm} (h : t.rootOk) : t.kids.length ≤ 4 := by
 have h1 := h.1
 unfold arity at h1
 split at h1
 ·omega
 ·split at h1
  ·omega
  ·split at h1
   ·omega
   ·split at h1
    ·omega
    ·split at h1 <;> omega
end Go.Proofs.YtpddjebdncaceaaGreat
namespace Go.Proofs.YtpddjebdncaceaaGreat
open Go.RowKit
theorem SlIn.set3 {w : World} {B g i j k : Nat} {l : List Tm} {v x y z : Value} (h : SlIn w B l v) (hg : g < B) : SlIn (((w.setCell ⟨g, i, none⟩ x).setCell ⟨g, j, none⟩ y).setCell ⟨g, k, none⟩ z) B l v :=
 ((h.setCell (p := ⟨g, i, none⟩) hg _).setCell (p := ⟨g, j, none⟩) hg _).setCell (p := ⟨g, k, none⟩) hg _
end Go.Proofs.YtpddjebdncaceaaGreat
namespace Go.Proofs.YtpddjebdncaceaaGreat
open Go.ChangeShapes Go.WideShapes Go.ChangeAt Go.RowKit Go.Deep
theorem cells_u8 : Tryz.prog.cellsOf 5 = 1 := by kernel_rfl
set_option maxRecDepth 100000 in
theorem open_bytes {H : Type} {enc : TypeId × Value → H} {W : World} {v : Value} {d : DataW H} {ps : List MemPlace} (hok : Value.okWide Tryz.prog W .any 0 43 v) (h : DataW.Trod enc Tryz.prog W 0 (fun _ => true) true 43 v d ps) :
  ∃ (U : Nat → Int) (a : Option Addr) (b o len cap : Nat), v = .slice a len cap ∧ len ≤ cap ∧ cap ≤ maxLen ∧ (0 < len → b < W.heap.size) ∧ Bytes U a b o len W := by
 obtain ⟨a0, len, cap, rfl⟩ := okWide_slice Tryz.underlying43 hok
 obtain ⟨fuel, hf⟩ := h
 rcases open_ints Tryz.underlying43 Tryz.underlying5 cells_u8 hf with ⟨hcs, _⟩ | ⟨a, len', cap', zs, hcs, _, hl, hm, hz, _, hcell, hwz⟩
 ·simp [Value.cells] at hcs
  obtain ⟨rfl, rfl, rfl⟩ := hcs
  exact ⟨fun _ => 0, none, 0, 0, 0, 0, rfl, Nat.le_refl _, Nat.zero_le _, fun h => by omega, fun h => by omega, fun i hi => by omega⟩
 ·simp [Value.cells] at hcs
  obtain ⟨rfl, rfl, rfl⟩ := hcs
  simp only [if_true] at hz
  obtain ⟨b, o, spot⟩ := a
  have hsp : 0 < len → spot = none := fun h0 => by simpa [Addr.add] using World.cell?_spot (hcell 0 (by omega))
  have hc : ∀ i, i < len → W.cell? ⟨b, o + i, none⟩ = some (.int .u8 (zs.getD i 0)) := fun i hi => by
   have h1 := hsp (by omega)
   subst h1
   have h2 := hcell i (by omega)
   have ea : (Addr.mk b o none).add i = ⟨b, o + i, none⟩ := by unfold Addr.add; split <;> simp_all
   rwa [ea] at h2
  refine ⟨fun i => zs.getD i 0, some ⟨b, o, spot⟩, b, o, len, cap, rfl, hl, hm, fun h0 => World.block_lt_of_cell? W _ (hc 0 h0), fun h0 => by rw [hsp h0], fun i hi => ⟨hc i hi, ?_⟩⟩
  have hi2 : i < zs.length := by omega
  have hw := hwz _ (List.getElem_mem hi2)
  have e : zs.getD i 0 = zs[i] := by simp [hi2]
  show 0 ≤ zs.getD i 0 ∧ zs.getD i 0 ≤ 255
  rw [e]
  simpa [Lit.wf, IntKind.min, IntKind.max, IntKind.signed, IntKind.bits] using hw
end Go.Proofs.YtpddjebdncaceaaGreat
