/-
  Next, OpenB, Repl.
-/
import Derived.Test.YtihlbbbajaepoaaP08
import Derived.Test.YtihlbbbajaepoaaP10
import Derived.Test.YtihlbbbajaepoaaP12
namespace Go.Proofs.Ytihlbbbajaepoaa
open Go.RowKit
theorem row_put {w3 : World} {R q : Nat} {l : List Tm} {x : Tm} {s : Value} {F F2 : List Nat} {cs : Array Value} {T : TypeId} (hb : w3.heap[R]? = some (.cells cs T (0, 0))) (hq : q < l.length) (hsz : cs.size = l.length * 3)
  (hrow : RowOwn w3 (l.take q) R 0 F) (hs : SlOwn w3 x.kids s F2) (hR : R ∉ F) (hR2 : R ∉ F2) :
  (∃ cs' : Array Value, (((w3.setCell ⟨R, q * 3, none⟩ (.int .i64 x.kind)).setCell ⟨R, q * 3 + 1, none⟩ (.int .i64 x.num)).setCell ⟨R, q * 3 + 2, none⟩ s).heap[R]? = some (.cells cs' T (0, 0)) ∧ cs'.size = l.length * 3) ∧
   RowOwn (((w3.setCell ⟨R, q * 3, none⟩ (.int .i64 x.kind)).setCell ⟨R, q * 3 + 1, none⟩ (.int .i64 x.num)).setCell ⟨R, q * 3 + 2, none⟩ s) (l.take q ++ [x]) R 0 (F ++ F2) := by
 have h4 := block_set (block_set (block_set hb (q * 3) (.int .i64 x.kind)) (q * 3 + 1) (.int .i64 x.num)) (q * 3 + 2) s
 obtain ⟨_, c3, _⟩ := block_of_cells hb
 obtain ⟨_, c4, _⟩ := block_of_cells h4
 have hsame : ∀ g, g ≠ R → SameAt w3 (((w3.setCell ⟨R, q * 3, none⟩ (.int .i64 x.kind)).setCell ⟨R, q * 3 + 1, none⟩ (.int .i64 x.num)).setCell ⟨R, q * 3 + 2, none⟩ s) g := fun g hg =>
  SameAt.of_block ((Below.heap_setCell _ _ _ _ hg).trans ((Below.heap_setCell _ _ _ _ hg).trans (Below.heap_setCell _ _ _ _ hg)))
 refine ⟨⟨_, h4, by simp [hsz]⟩, RowOwn_append.2 ⟨F, F2, rfl, hrow.keep (fun i hi => ?_) (fun g hg => hsame g (fun e => hR (e ▸ hg))), ?_⟩⟩
 ·rw [List.length_take] at hi
  rw [c4, c3, Nat.zero_add, Array.getElem?_setIfInBounds_ne (by omega), Array.getElem?_setIfInBounds_ne (by omega), Array.getElem?_setIfInBounds_ne (by omega)]
 ·have hl : 0 + (l.take q).length * 3 = q * 3 := by rw [List.length_take]; omega
  rw [hl, RowOwn]
  refine ⟨F2, [], by simp, TmOwn_iff.2 ⟨s, ?_, ?_, ?_, hs.keep fun g hg => hsame g (fun e => hR2 (e ▸ hg))⟩, by rw [RowOwn]⟩
  ·rw [c4, Array.getElem?_setIfInBounds_ne (by omega), Array.getElem?_setIfInBounds_ne (by omega), Array.getElem?_setIfInBounds_self_of_lt (by omega)]
  ·rw [c4, Array.getElem?_setIfInBounds_ne (by omega), Array.getElem?_setIfInBounds_self_of_lt (by simp; omega)]
  ·rw [c4, Array.getElem?_setIfInBounds_self_of_lt (by simp; omega)]
end Go.Proofs.Ytihlbbbajaepoaa
namespace Go.Proofs.Ytihlbbbajaepoaa
open Go.RowKit
theorem info_term' : (Try.prog.info? 30).map (fun i => (i.zero, i.size, i.bytes)) = some (some (.agg #[.int .i64 0, .int .i64 0, .slice none 0 0]), 3, 40) := by kernel_rfl
theorem VarAt.only {g g' : Nat} {k n : Int} {s : Value} {w w' : World} (h : VarAt g' k n s w) (ho : Only g w w') (hn : g' ≠ g) : VarAt g' k n s w' :=
 (ho.block g' h.facts.1 (fun e => hn (by injection e))).trans h
theorem SlOwn.only {g : Nat} {l : List Tm} {v : Value} {F : List Nat} {w w' : World} (h : SlOwn w l v F) (ho : Only g w w') (hF : ∀ x ∈ F, x < w.heap.size ∧ x ≠ g) : SlOwn w' l v F :=
 h.keep fun x hx => SameAt.of_block (ho.block x (hF x hx).1 (fun e => (hF x hx).2 (by injection e)))
end Go.Proofs.Ytihlbbbajaepoaa
namespace Go.Proofs.Ytihlbbbajaepoaa
open Go.RowKit
def ReplPost (w : World) (P : Prop) (T : Tm) (e : Ending) (w' : World) : Prop := Below w.heap.size w w' ∧ ∃ v, e = .returned (.tuple #[v, .bool (tr P)]) ∧ Made w.heap.size (orZero P T) v w'
theorem ReplPost.no {w w' : World} {P : Prop} {T : Tm} (hP : ¬ P) (hb : Below w.heap.size w w') : ReplPost w P T (.returned (.tuple #[.agg #[.int .i64 0, .int .i64 0, .slice none 0 0], .bool false])) w' :=
 ⟨hb, _, by rw [tr_not hP], by unfold orZero; rw [if_neg hP]; exact ⟨_, [], rfl, SlOwn.nil _ _ _, List.nodup_nil, fun g h => by cases h⟩⟩
theorem ReplPost.yes {w w' : World} {P : Prop} {T : Tm} {s : Value} {F : List Nat} (hP : P) (hb : Below w.heap.size w w') (hs : SlOwn w' T.kids s F) (hn : F.Nodup) (hF : ∀ g ∈ F, w.heap.size ≤ g ∧ g < w'.heap.size) :
  ReplPost w P T (.returned (.tuple #[.agg #[.int .i64 T.kind, .int .i64 T.num, s], .bool true])) w' :=
 ⟨hb, _, by rw [tr_of hP], by unfold orZero; rw [if_pos hP]; exact ⟨s, F, rfl, hs, hn, hF⟩⟩
end Go.Proofs.Ytihlbbbajaepoaa
namespace Go.Proofs.Ytihlbbbajaepoaa
open Go.ChangeShapes Go.WideShapes Go.ChangeAt Go.RowKit Go.Deep
theorem cells_u8 : Try.prog.cellsOf 5 = 1 := by kernel_rfl
set_option maxRecDepth 100000 in
theorem open_bytes {H : Type} {enc : TypeId × Value → H} {W : World} {v : Value} {d : DataW H} {ps : List MemPlace} (hok : Value.okWide Try.prog W .any 0 49 v) (h : DataW.Trod enc Try.prog W 0 (fun _ => true) true 49 v d ps) :
  ∃ (U : Nat → Int) (a : Option Addr) (b o len cap : Nat), v = .slice a len cap ∧ len ≤ cap ∧ cap ≤ maxLen ∧ (0 < len → b < W.heap.size) ∧ Bytes U a b o len W := by
 obtain ⟨a0, len, cap, rfl⟩ := okWide_slice Try.underlying49 hok
 obtain ⟨fuel, hf⟩ := h
 rcases open_ints Try.underlying49 Try.underlying5 cells_u8 hf with ⟨hcs, _⟩ | ⟨a, len', cap', zs, hcs, _, hl, hm, hz, _, hcell, hwz⟩
 ·simp [Value.cells] at hcs
  obtain ⟨rfl, rfl, rfl⟩ := hcs
  exact ⟨fun _ => 0, none, 0, 0, 0, 0, rfl, Nat.le_refl _, Nat.zero_le _, fun h => by omega, fun h => by omega, fun i hi => by omega⟩
 ·simp [Value.cells] at hcs
  obtain ⟨rfl, rfl, rfl⟩ := hcs
  simp only [if_true] at hz
  obtain ⟨b, o, spot⟩ := a
  have hsp : 0 < len → spot = none := fun h0 => by simpa [Addr.add] using World.cell?_spot (hcell 0 (by omega))
  have hc : ∀ i, i < len → W.cell? ⟨b, o + i, none⟩ = some (.int .u8 (zs.getD i 0)) := fun i hi => by
   have h1 := hsp (by omega)
   subst h1
   have h2 := hcell i (by omega)
   have ea : (Addr.mk b o none).add i = ⟨b, o + i, none⟩ := by unfold Addr.add; split <;> simp_all
   rwa [ea] at h2
  refine ⟨fun i => zs.getD i 0, some ⟨b, o, spot⟩, b, o, len, cap, rfl, hl, hm, fun h0 => World.block_lt_of_cell? W _ (hc 0 h0), fun h0 => by rw [hsp h0], fun i hi => ⟨hc i hi, ?_⟩⟩
  have hi2 : i < zs.length := by omega
  have hw := hwz _ (List.getElem_mem hi2)
  have e : zs.getD i 0 = zs[i] := by simp [hi2]
  show 0 ≤ zs.getD i 0 ∧ zs.getD i 0 ≤ 255
  rw [e]
  simpa [Lit.wf, IntKind.min, IntKind.max, IntKind.signed, IntKind.bits] using hw
end Go.Proofs.Ytihlbbbajaepoaa
