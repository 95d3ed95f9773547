/-
  DuH.
-/
import Derived.Test.YtpddjebdncaceaaGreatB39
import Derived.Test.YtpddjebdncaceaaGreatB40
namespace Go.Proofs.YtpddjebdncaceaaGreat
open Go.RowKit
set_option linter.unusedVariables false
set_option linter.unusedSimpArgs false
def NP (B : Nat) (L : List Nat) (v : Value) (w : World) : Prop := Ints w B (natAt L) L.length v
def NQ (B : Nat) (L : List Nat) (v : Value) (w : World) : Prop := ∃ g, B ≤ g ∧ IntsB w g (natAt L) L.length v
def NH (B : Nat) (L : List Nat) (k : Int) (v : Value) (w : World) : Prop := ∃ g, B ≤ g ∧ IntsB w g (fun i => k + i) L.length v
theorem intsB_ints {w : World} {g B len : Nat} {N : Int → Int} {v : Value} (h : IntsB w g N len v) (hB : B ≤ g) : Ints w B N len v := by
 obtain ⟨a, cap, e, hlc, h1⟩ := h
 refine ⟨a, cap, g, 0, e, fun h0 => ?_, fun i hi => ?_⟩
 ·obtain ⟨ha, cs, k1, k2, k3⟩ := h1 h0
  exact ⟨ha, hB, (block_of_cells k1).1⟩
 ·obtain ⟨ha, cs, k1, k2, k3⟩ := h1 (by omega)
  rw [Nat.zero_add]
  exact ((block_of_cells k1).2.1 i).trans (k3 i hi)
theorem intsB_below {w w' : World} {g len : Nat} {N : Int → Int} {v : Value} (h : IntsB w g N len v) (hb : Below w.heap.size w w') : IntsB w' g N len v := by
 obtain ⟨a, cap, e, hlc, h1⟩ := h
 refine ⟨a, cap, e, hlc, fun h0 => ?_⟩
 obtain ⟨ha, cs, k1, k2, k3⟩ := h1 h0
 exact ⟨ha, cs, (hb.block g (block_of_cells k1).1).trans k1, k2, k3⟩
theorem intsB_but {F : List Nat} {w w' : World} {g len : Nat} {N : Int → Int} {v : Value} (h : IntsB w g N len v) (hb : But F w w') (hg : g ∉ F) : IntsB w' g N len v := by
 obtain ⟨a, cap, e, hlc, h1⟩ := h
 refine ⟨a, cap, e, hlc, fun h0 => ?_⟩
 obtain ⟨ha, cs, k1, k2, k3⟩ := h1 h0
 exact ⟨ha, cs, (hb.block g (block_of_cells k1).1 hg).trans k1, k2, k3⟩
theorem NP.base {B b' : Nat} {L : List Nat} {v : Value} {w : World} (h : NP B L v w) (hb : b' ≤ B) : NP b' L v w := Ints.mono h hb
theorem NP.below {B : Nat} {L : List Nat} {v : Value} {w w' : World} (h : NP B L v w) (hb : Below w.heap.size w w') : NP B L v w' := Ints.below h hb
theorem NQ.rowP {B : Nat} {L : List Nat} {v : Value} {w : World} (h : NQ B L v w) : NP B L v w := by
 obtain ⟨g, hg, h⟩ := h
 exact intsB_ints h hg
theorem NQ.below {B : Nat} {L : List Nat} {v : Value} {w w' : World} (h : NQ B L v w) (hb : Below w.heap.size w w') : NQ B L v w' := h.imp fun _ h => ⟨h.1, intsB_below h.2 hb⟩
theorem NQ.but {F : List Nat} {B : Nat} {L : List Nat} {v : Value} {w w' : World} (h : NQ B L v w) (hb : But F w w') (hF : ∀ g ∈ F, g < B) : NQ B L v w' := h.imp fun _ h => ⟨h.1, intsB_but h.2 hb fun hg => by have := hF _ hg; omega⟩
theorem NH.below {B : Nat} {L : List Nat} {k : Int} {v : Value} {w w' : World} (h : NH B L k v w) (hb : Below w.heap.size w w') : NH B L k v w' := h.imp fun _ h => ⟨h.1, intsB_below h.2 hb⟩
theorem eqNP_any (L : List Nat) (B1 B2 : Nat) (w : World) (v1 v2 : Value) (hL : L.length ≤ 1048576) (_ : True) (h1 : NP B1 L v1 w) (h2 : NP B2 L v2 w) : Calls Tryz.prog 12 #[v1, v2] w (EqPost w true) :=
 eqInts_any (natAt L) L.length w v1 v2 hL (Ints.mono h1 (Nat.zero_le _)) (Ints.mono h2 (Nat.zero_le _))
theorem markNP_any (L : List Nat) (B : Nat) (k : Int) (w : World) (v : Value) (hL : L.length ≤ 1048576) (_ : True) (hk0 : 0 ≤ k) (hk1 : k + L.length ≤ 4611686018427387904) (h : NQ B L v w) : Calls Tryz.prog 17 #[v, .int .i64 k] w fun e w' => e = .returned (.int .i64 (k + L.length)) ∧ NH B L k v w' ∧ ∃ F, But F w w' ∧ ∀ b ∈ F, B ≤ b := by
 obtain ⟨g, hg, h⟩ := h
 refine (markN_any _ _ g k w v hL hk0 hk1 h).mono ?_
 rintro e w' ⟨h1, h2, h3⟩
 exact ⟨h1, ⟨g, hg, h3⟩, [g], h2, fun b hb => by rw [List.mem_singleton.1 hb]; exact hg⟩
theorem heldNP_any (L : List Nat) (B : Nat) (k : Int) (w : World) (v : Value) (_ : L.length ≤ 1048576) (hk0 : 0 ≤ k) (hk1 : k + L.length ≤ 4611686018427387904) (h : NH B L k v w) : Calls Tryz.prog 18 #[v, .int .i64 k] w (IntPost' w (k + L.length)) := by
 obtain ⟨g, hg, h⟩ := h
 exact heldN_any L.length k w v hk0 hk1 (intsB_ints h (Nat.zero_le _))
theorem ownN_B {base : Nat} {L : List Nat} {v : Value} {w : World} (h : OwnN base L.length (natAt L) v w) : NQ base L v w := by
 rcases h.2 with ⟨e1, e2⟩ | ⟨g, cap, cur, rfl, r1, r2, r3, r4, r5, r6⟩
 ·exact ⟨base, Nat.le_refl _, none, 0, by rw [e1, e2], by omega, fun h => by omega⟩
 ·refine ⟨g, r1, _, cap, rfl, r3, fun _ => ⟨rfl, cur, r2, by omega, fun i hi => ?_⟩⟩
  have h1 : (cur.toList.take (L.length * 1))[i]? = some (.int .i64 (natAt L i)) := by rw [r6]; simp [hi]
  rw [List.getElem?_take_of_lt (by omega)] at h1
  simpa using h1
theorem UsPost.law {w w' : World} {L : List Nat} {e : Ending} (h : UsPost w L e w') : Below w.heap.size w w' ∧ ∃ a c, e = .returned (.slice a L.length c) ∧ NP w.heap.size L (.slice a L.length c) w' := h
theorem UsOwn.law {w w' : World} {L : List Nat} {e : Ending} (h : UsOwn w L e w') : Below w.heap.size w w' ∧ ∃ a c, e = .returned (.slice a L.length c) ∧ NQ w.heap.size L (.slice a L.length c) w' := by
 obtain ⟨h1, a, c, h2, h3⟩ := h
 exact ⟨h1, a, c, h2, ownN_B h3⟩
theorem usedL_small (l : List (Tm × Tm)) (t : Tm) : (usedL l t).length ≤ 1000000 ∧ ((usedL l t).length ≤ 1048576 ∧ True) := by
 have : (usedL l t).length ≤ 8 := by
  unfold usedL
  split
  ·rename_i h
   exact Nat.le_trans (List.length_filter_le _ _) (by rw [List.length_range]; exact h.1.1)
  ·simp
 exact ⟨by omega, by omega, trivial⟩
end Go.Proofs.YtpddjebdncaceaaGreat
