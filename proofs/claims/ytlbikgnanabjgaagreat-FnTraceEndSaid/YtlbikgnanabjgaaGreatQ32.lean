/-
  DrawA, NodeX, LawT, Norm, TeleS, TrB.
-/
import Derived.Test.YtlbikgnanabjgaaGreatQ01
import Derived.Test.YtlbikgnanabjgaaGreatQ03
import Derived.Test.YtlbikgnanabjgaaGreatQ05
import Derived.Test.YtlbikgnanabjgaaGreatQ09
import Derived.Test.YtlbikgnanabjgaaGreatQ12
import Derived.Test.YtlbikgnanabjgaaGreatQ15
import Derived.Test.YtlbikgnanabjgaaGreatQ18
import Derived.Test.YtlbikgnanabjgaaGreatQ20
import Derived.Test.YtlbikgnanabjgaaGreatQ24
import Derived.Test.YtlbikgnanabjgaaGreatQ28
import Derived.Test.YtlbikgnanabjgaaGreatQ29
import Derived.Test.YtlbikgnanabjgaaGreatQ31
import Derived.Deep.DeepCutAuto
import Derived.Laws.MakeOwn
import Derived.ProofKit
import Derived.StillTailTactics
import Derived.Test.YtlbikgnanabjgaaGreatProg
import Derived.WalkSpells
namespace Go.Proofs.YtlbikgnanabjgaaGreat
open Go.RowKit
end Go.Proofs.YtlbikgnanabjgaaGreat
namespace Go.Proofs.YtlbikgnanabjgaaGreat
open Go.RowKit
def BoxAt (g : Nat) (k n : Int) (s : Value) (w : World) : Prop := g < w.heap.size ∧ w.cell? ⟨g, 0, none⟩ = some (.int .i64 k) ∧ w.cell? ⟨g, 1, none⟩ = some (.int .i64 n) ∧ w.cell? ⟨g, 2, none⟩ = some s
theorem BoxAt.below {g : Nat} {k n : Int} {s : Value} {w w' : World} (h : BoxAt g k n s w) (hb : Below w.heap.size w w') : BoxAt g k n s w' :=
 ⟨Nat.lt_of_lt_of_le h.1 hb.size, (hb.cell (p := ⟨g, 0, none⟩) h.1).trans h.2.1, (hb.cell (p := ⟨g, 1, none⟩) h.1).trans h.2.2.1, (hb.cell (p := ⟨g, 2, none⟩) h.1).trans h.2.2.2⟩
end Go.Proofs.YtlbikgnanabjgaaGreat
namespace Go.Proofs.YtlbikgnanabjgaaGreat
open Go.RowKit
theorem sameAt_set {w : World} {p : Addr} {u : Value} {g : Nat} (h : g ≠ p.block) : SameAt w (w.setCell p u) g := SameAt.of_block (Below.heap_setCell w p u g h)
theorem SameAt.trans {a b c : World} {g : Nat} (h : SameAt a b g) (k : SameAt b c g) : SameAt a c g := fun i => ⟨(k i).1.trans (h i).1, (k i).2.trans (h i).2⟩
end Go.Proofs.YtlbikgnanabjgaaGreat
namespace Go.Proofs.YtlbikgnanabjgaaGreat
open Go.RowKit
end Go.Proofs.YtlbikgnanabjgaaGreat
namespace Go.Proofs.YtlbikgnanabjgaaGreat
open Go.RowKit
theorem VarAt.set3 {g : Nat} {k n k' n' : Int} {s s' : Value} {w : World} (h : VarAt g k n s w) : VarAt g k' n' s' (((w.setCell ⟨g, 0, none⟩ (.int .i64 k')).setCell ⟨g, 1, none⟩ (.int .i64 n')).setCell ⟨g, 2, none⟩ s') := by
 have h0 : VarAt g k' n s (w.setCell ⟨g, 0, none⟩ (.int .i64 k')) := by
  have := block_set h 0 (.int .i64 k')
  simpa [VarAt] using this
 have h1 : VarAt g k' n' s ((w.setCell ⟨g, 0, none⟩ (.int .i64 k')).setCell ⟨g, 1, none⟩ (.int .i64 n')) := by
  have := block_set h0 1 (.int .i64 n')
  simpa [VarAt] using this
 have := block_set h1 2 s'
 simpa [VarAt] using this
theorem VarAt.four {g : Nat} {k n : Int} {s : Value} {w : World} (h : VarAt g k n s w) : g < w.heap.size ∧ w.cell? ⟨g, 0, none⟩ = some (.int .i64 k) ∧ w.cell? ⟨g, 1, none⟩ = some (.int .i64 n) ∧ w.cell? ⟨g, 2, none⟩ = some s := ⟨h.facts.1, h.facts.2.1, h.facts.2.2.1, h.facts.2.2.2.1⟩
end Go.Proofs.YtlbikgnanabjgaaGreat
namespace Go.Proofs.YtlbikgnanabjgaaGreat
open Go.RowKit
set_option maxRecDepth 100000 in
theorem outside_any (w : World) : Calls Tryz.prog 22 #[] w fun e w' => e = .returned (.agg #[.bool false, .bool false]) ∧ Below w.heap.size w w' := by
 go_enter Tryz.func22, Tryz.ntmps22
 go_wp2_with fail
 refine bodyPost_ret (v := .agg #[.bool false, .bool false]) (by simp [results, Tryz.results22, go_sem, *]) rfl ⟨rfl, ?_⟩
 exact below1 _ _
end Go.Proofs.YtlbikgnanabjgaaGreat
namespace Go.Proofs.YtlbikgnanabjgaaGreat
open Go.RowKit
def NodeR (k : Int) (r : List (Tm × Value)) (w : World) (e : Ending) (w' : World) : Prop := Below w.heap.size w w' ∧ ∃ g c, e = .returned (.agg #[.int .i64 k, .int .i64 0, .slice (some ⟨g, 0, none⟩) r.length c]) ∧ w.heap.size < g ∧ ∀ j u, (cellsL r)[j]? = some u → w'.cell? ⟨g, j, none⟩ = some u
set_option maxRecDepth 100000 in
theorem nodeR_any (k : Int) (r : List (Tm × Value)) (w : World) (b o cap : Nat) (hne : r ≠ []) (hl : r.length ≤ 100000) (hcell : ∀ j u, (cellsL r)[j]? = some u → w.cell? ⟨b, o + j, none⟩ = some u) (hin : ∀ u ∈ cellsL r, u.oneCell' = true) :
  Calls Tryz.prog 43 #[.int .i64 k, .slice (some ⟨b, o, none⟩) r.length cap] w (NodeR k r w) := by
 obtain ⟨i0, hi, hz0, hz1, hz2⟩ := info_parts info_term'
 have HC := tuck hcell
 have HIN := tuck hin
 have HI := tuck hi
 have HZ0 := tuck hz0
 have HZ1 := tuck hz1
 have HZ2 := tuck hz2
 clear hcell hin hi hz0 hz1 hz2
 go_enter Tryz.func43, Tryz.ntmps43
 have hlt : b < w.heap.size := by
  cases r with
  | nil => exact absurd rfl hne
  | cons x r => exact World.block_lt_of_cell? w _ (HC.out 0 _ rfl)
 go_wp2_with (at_builtin; refine wpList_append_own _ rfl (.tmp 6) (.tmp 7) 23 rfl (w.heap.size + 1) 25 i0 _ 3 40 Tryz.underlying23 HI.out HZ0.out HZ1.out HZ2.out rfl (by decide) (.slice (some ⟨w.heap.size + 1, 0, none⟩) 0 0) 0 [] rfl ?own ⟨b, o, none⟩ r.length cap (cellsL r) rfl ?len ?cells ?one ?c63 ?cby ?cbase ?next)
 case own =>
  have := World.ownsRow_made (w.alloc (.cells #[.int .i64 0, .int .i64 0, .slice none 0 0] 25)) #[] 0 (base := w.heap.size + 1) (e := 25) (size := 3) (by simp) (by simp [maxLen]) rfl
  simpa using this
 case len => rw [cellsL_length]
 case cells =>
  intro j u hu
  have := HC.out j u hu
  have ea : (Addr.mk b o none).add j = ⟨b, o + j, none⟩ := by unfold Addr.add; split <;> simp_all
  rw [ea]
  exact ((below2 w _ _).cell (p := ⟨b, o + j, none⟩) hlt).trans this
 case one => exact HIN.out
 case c63 => simp [maxLen]; omega
 case cby => omega
 case cbase => simp
 case next =>
  intro v' w' hown hgrow _
  have hbel : Below w.heap.size w w' := (below2 w _ _).grown hgrow (by simp; omega) (fun g hg => by simp [Value.ownBlock] at hg; omega)
  have hz : w.heap.size < w'.heap.size := by have := hgrow.size; simp at this; omega
  have hc0 : ∀ i, w'.cell? ⟨w.heap.size, i, none⟩ = ((w.alloc (.cells #[.int .i64 0, .int .i64 0, .slice none 0 0] 25)).alloc (.cells #[] 25)).cell? ⟨w.heap.size, i, none⟩ := fun i =>
   World.cell?_of_block (hgrow.block w.heap.size (by simp; omega) (fun e => by simp [Value.ownBlock] at e))
  have hf0 : ∀ i, w'.frozen? ⟨w.heap.size, i, none⟩ = ((w.alloc (.cells #[.int .i64 0, .int .i64 0, .slice none 0 0] 25)).alloc (.cells #[] 25)).frozen? ⟨w.heap.size, i, none⟩ := fun i =>
   World.frozen?_of_block (hgrow.block w.heap.size (by simp; omega) (fun e => by simp [Value.ownBlock] at e))
  have hsl : ∃ g c, v' = .slice (some ⟨g, 0, none⟩) r.length c ∧ w.heap.size < g ∧ ∀ j u, (cellsL r)[j]? = some u → w'.cell? ⟨g, 0 + j, none⟩ = some u := by
   rcases hown.2 with ⟨_, h0⟩ | ⟨g, c, cur, rfl, hg, _⟩
   ·exact absurd (List.length_eq_zero_iff.1 h0) hne
   ·refine ⟨g, c, rfl, by omega, fun j u hu => ?_⟩
    rw [Nat.zero_add, hown.cellAt j (by have := (List.getElem?_eq_some_iff.1 hu).1; rw [cellsL_length] at this; exact this)]
    exact hu
  obtain ⟨g, c, rfl, hg, hsl⟩ := hsl
  have HSL := tuck hsl
  have HBEL := tuck hbel
  clear hsl hbel hown hgrow
  go_wp2_with fail
  refine bodyPost_ret (v := .agg #[.int .i64 k, .int .i64 0, .slice (some ⟨g, 0, none⟩) r.length c]) (by simp [results, Tryz.results43, go_sem, hc0]) rfl ?_
  have hb3 := bSet3 HBEL.out (Nat.le_refl w.heap.size) 0 1 2 (.int .i64 k) (.int .i64 0) (.slice (some ⟨g, 0, none⟩) r.length c)
  refine ⟨hb3, g, c, rfl, hg, fun j u hu => ?_⟩
  have hne3 : ∀ i, (⟨w.heap.size, i, none⟩ : Addr) ≠ ⟨g, 0 + j, none⟩ := fun i e => by injection e; omega
  have hq := HSL.out j u hu
  rw [show (⟨g, j, none⟩ : Addr) = ⟨g, 0 + j, none⟩ by rw [Nat.zero_add]]
  rw [World.cell?_setCell_other _ _ _ _ (hne3 _), World.cell?_setCell_other _ _ _ _ (hne3 _), World.cell?_setCell_other _ _ _ _ (hne3 _)]
  exact hq
theorem nodeX_any (k : Int) (r : List (Tm × Value)) (w : World) (R cap : Nat) (T : TypeId) (cs : Array Value) (X : Nat → Prop) (hX : ∀ i, X i → i < w.heap.size) (hne : r ≠ []) (hl : r.length ≤ 100000) (hb : w.heap[R]? = some (.cells cs T (0, 0))) (hc : cs.toList = cellsL r) (hx : ∀ x ∈ r, SlX w X x.1.kids x.2) :
  Calls Tryz.prog 43 #[.int .i64 k, .slice (some ⟨R, 0, none⟩) r.length cap] w fun e w' => Below w.heap.size w w' ∧ ∃ (a : Option Addr) (c : Nat), e = .returned (.agg #[.int .i64 k, .int .i64 0, .slice a r.length c]) ∧ SlX w' X (r.map (·.1)) (.slice a r.length c) := by
 obtain ⟨b1, b2, -⟩ := block_of_cells hb
 refine (nodeR_any k r w R 0 cap hne hl (fun j u hu => ?_) (cellsL_one fun x hx' => (hx x hx').sl)).mono ?_
 ·rw [Nat.zero_add, b2, ← Array.getElem?_toList, hc]; exact hu
 ·rintro e w' ⟨hb', g, c, rfl, hg, hrow⟩
  refine ⟨hb', some ⟨g, 0, none⟩, c, rfl, ?_⟩
  have hr : RowAt (mask w' X) 0 (r.map (·.1)) g 0 := RowAt.of_list (fun j u hu => mask_cell.2 ⟨fun h => by have := hX _ h; dsimp only at this; omega, by rw [Nat.zero_add]; exact hrow j u hu⟩) (fun x hx' => (hx x hx').below hb')
  refine ⟨_, c, g, 0, ?_, ?_, fun _ => ⟨rfl, Nat.zero_le _⟩, hr⟩
  ·rw [List.length_map]
  ·rw [List.length_map]; unfold maxLen; omega
theorem SlX.lay {w : World} {X : Nat → Prop} {l : List Tm} {v : Value} (h : SlX w X l v) (o : Obj) : SlX (w.alloc o) (fun i => X i ∨ i = w.heap.size) l v :=
 h.to fun p u hn hc => by
  have hp := World.block_lt_of_cell? w p hc
  exact ⟨fun hx => by
   rcases hx with hx | hx
   ·exact hn hx
   ·omega, ((below1 w o).cell hp).trans hc⟩
theorem SlX.put {w : World} {X : Nat → Prop} {l : List Tm} {v : Value} (h : SlX w X l v) {g : Nat} (hg : X g) (i j k : Nat) (x y z : Value) : SlX (((w.setCell ⟨g, i, none⟩ x).setCell ⟨g, j, none⟩ y).setCell ⟨g, k, none⟩ z) X l v :=
 ((h.set (q := ⟨g, i, none⟩) hg _).set (q := ⟨g, j, none⟩) hg _).set (q := ⟨g, k, none⟩) hg _
theorem SlX.less {w : World} {X Y : Nat → Prop} {l : List Tm} {v : Value} (h : SlX w Y l v) (hXY : ∀ i, X i → Y i) : SlX w X l v :=
 h.to fun _ _ hn hc => ⟨fun hx => hn (hXY _ hx), hc⟩
end Go.Proofs.YtlbikgnanabjgaaGreat
namespace Go.Proofs.YtlbikgnanabjgaaGreat
open Go.RowKit
theorem leafS_any (k n : Int) (w : World) : Calls Tryz.prog 42 #[.int .i64 k, .int .i64 n] w fun e w' => e = .returned (.agg #[.int .i64 k, .int .i64 n, .slice none 0 0]) ∧ Below w.heap.size w w' := by
 go_enter Tryz.func42, Tryz.ntmps42
 go_wp2
 refine bodyPost_ret (v := .agg #[.int .i64 k, .int .i64 n, .slice none 0 0]) (by simp [results, Tryz.results42, go_sem]) rfl ⟨rfl, below1 _ _⟩
def AnyPost (g : Nat) (a : Option Addr) (len cap p : Nat) (w : World) (e : Ending) (w' : World) : Prop :=
 ∃ (t : Tm) (s : Value) (F : List Nat) (p' : Nat), e = .returned (.agg #[.int .i64 t.kind, .int .i64 t.num, s]) ∧ SlOwn w' t.kids s F ∧ F.Nodup ∧ (∀ x ∈ F, w.heap.size ≤ x ∧ x < w'.heap.size) ∧ t.Valid ∧ p' ≤ p + 1876 ∧ Rd g a len cap p' w' ∧ Only g w w'
set_option maxRecDepth 100000 in
set_option maxHeartbeats 1600000 in
theorem lany_any {U : Nat → Int} {g b o len cap p : Nat} {a : Option Addr} (w : World) (hlen : len ≤ 2000) (hbg : 0 < len → b ≠ g) (hp : p ≤ 90000) (hrd : Rd g a len cap p w) (hby : Bytes U a b o len w) :
  Calls Tryz.prog 47 #[.pointer (some ⟨g, 0, none⟩)] w (AnyPost g a len cap p w) := by
 have hg := hrd.facts.1
 have HRD := tuck hrd
 have HBY := tuck hby
 have HPOST : Hid (∀ (t : Tm) (w' : World) (s : Value) (F : List Nat) (p' : Nat), SlOwn w' t.kids s F → F.Nodup → (∀ x ∈ F, w.heap.size ≤ x ∧ x < w'.heap.size) → t.Valid → p' ≤ p + 1876 → Rd g a len cap p' w' → Only g w w' → AnyPost g a len cap p w (.returned (.agg #[.int .i64 t.kind, .int .i64 t.num, s])) w') := fun t w' s F p' h1 h2 h3 h4 h5 h6 h7 => ⟨t, s, F, p', rfl, h1, h2, h3, h4, h5, h6, h7⟩
 generalize AnyPost g a len cap p w = post at *
 have HL1 : Hid (DInts (fun i => ([3, 4, 2, 3, 1] : List Int).getD i 0) (w.heap.size + 1) 0 5 ((w.alloc (.cells #[.int .i64 0, .int .i64 0, .slice none 0 0] 25)).alloc (.cells #[.int .i64 3, .int .i64 4, .int .i64 2, .int .i64 3, .int .i64 1] 3))) := by
  have := ints_new [3, 4, 2, 3, 1] (w.alloc (.cells #[.int .i64 0, .int .i64 0, .slice none 0 0] 25)) 3
  rwa [show (w.alloc (.cells #[.int .i64 0, .int .i64 0, .slice none 0 0] 25)).heap.size = w.heap.size + 1 by simp] at this
 have HO0 : Hid (Only g w ((w.alloc (.cells #[.int .i64 0, .int .i64 0, .slice none 0 0] 25)).alloc (.cells #[.int .i64 3, .int .i64 4, .int .i64 2, .int .i64 3, .int .i64 1] 3))) := ((Only.refl g w).alloc _).alloc _
 have HV0 : Hid (VarAt w.heap.size 0 0 (.slice none 0 0) ((w.alloc (.cells #[.int .i64 0, .int .i64 0, .slice none 0 0] 25)).alloc (.cells #[.int .i64 3, .int .i64 4, .int .i64 2, .int .i64 3, .int .i64 1] 3))) := (VarAt.new w 0 0 (.slice none 0 0)).below (below1 _ _)
 clear hrd hby
 go_enter Tryz.func47, Tryz.ntmps47
 go_wp2_with fail
 refine (num_any (N := fun i => ([3, 4, 2, 3, 1] : List Int).getD i 0) (o2 := 0) (n := 5) _ hlen (by omega) (by omega) (by omega) (HRD.out.below (below2 _ _ _)) (HBY.out.below (below2 _ _ _)) hbg HL1.out (by omega)).mono ?_
 rintro e w1 ⟨i1, hi1, he, hrd, ho⟩
 obtain ⟨d, hd⟩ : ∃ d : Int, d = ([3, 4, 2, 3, 1] : List Int).getD i1 0 := ⟨_, rfl⟩
 obtain rfl : e = .returned (.int .i64 d) := by rw [hd]; exact he
 clear he
 have hk := (by decide : ∀ i < 5, 1 ≤ ([3, 4, 2, 3, 1] : List Int).getD i 0 ∧ ([3, 4, 2, 3, 1] : List Int).getD i 0 ≤ 4) i1 hi1
 rw [← hd] at hk
 clear hd
 obtain ⟨hk0, hk1⟩ := hk
 have HY0 := tuck (HV0.out.only ho (by omega))
 have hzr : w.heap.size < w1.heap.size := HY0.out.facts.1
 have HO := tuck (HO0.out.trans ho)
 have HD := tuck (ldraw_any hlen hbg 4 (by omega) d (p + 1) w1 (by omega) (by omega) (by omega) hrd ((HBY.out.below (below2 w _ _)).only ho hbg))
 clear hrd ho HO0 HV0 HL1
 go_wp2_with fail
 refine HD.out.mono ?_
 rintro e w2 ⟨T, ts, G, p2, rfl, hso, hnd, hF, hsz, hp2, hrd, ho⟩
 obtain ⟨ta, tc, rfl⟩ := hso.form
 replace HY0 := tuck (HY0.out.only ho (by omega))
 have hz1 : w.heap.size ≤ w1.heap.size := HO.out.size
 have HGB : Hid (∀ x ∈ G, w1.heap.size ≤ x ∧ x < w2.heap.size) := tuck hF
 have hz2 : w1.heap.size ≤ w2.heap.size := ho.size
 replace HO := tuck (HO.out.trans ho)
 have HR := tuck hrd
 have HP2 : Hid (p2 ≤ p + 1 + 3 * 625) := tuck hp2
 have HSO := tuck hso
 have HND := tuck hnd
 clear hso hnd hF hsz hp2 hrd ho HD
 go_wp2_with fail
 have HV : Hid (∀ W : World, Below w2.heap.size w2 W → Calls Tryz.prog 16 #[.agg #[.int .i64 T.kind, .int .i64 T.num, .slice ta T.kids.length tc]] W (BoolPost W (tr T.Valid))) := fun W h => validS_any T W _ ⟨_, rfl, (HSO.out.sl (B := 0) (fun _ _ => Nat.zero_le _)).below h⟩
 by_cases hT : T.Valid
 ·have HTV := tuck hT
  rw [tr_of hT] at HV
  clear hT
  have HPE := tuck (HPOST.out T)
  refine (HV.out _ (below1 _ _)).mono ?_
  rintro e w3 ⟨rfl, hb⟩
  have hbb := bAfter (below1 w2 (.cells #[.int .i64 T.kind, .int .i64 T.num, .slice ta T.kids.length tc] 25)) hb
  have hvt := (VarAt.new w2 T.kind T.num (.slice ta T.kids.length tc)).below hb
  obtain ⟨zt, t0, t1, t2, -⟩ := hvt.facts
  have HY3 := tuck (HY0.out.below hbb)
  obtain ⟨zv, v0, v1, v2, vf⟩ := HY3.out.facts
  have HO3 := tuck (HO.out.of_below hbb)
  have HR3 := tuck (HR.out.below hbb)
  have HSO3 := tuck (HSO.out.below (fun x hx => (HGB.out x hx).2) hbb)
  have hz3 : w2.heap.size ≤ w3.heap.size := hbb.size
  clear hb hbb hvt
  go_wp2_with fail
  refine bodyPost_ret (v := .agg #[.int .i64 T.kind, .int .i64 T.num, .slice ta T.kids.length tc]) (by simp [results, Tryz.results47, go_sem, *]) rfl (HPE.out _ _ G p2 ?_ HND.out (fun x hx => ?_) HTV.out ?_ ?_ ?_)
  ·exact HSO3.out.set3 (fun h => by have := (HGB.out _ h).1; omega) _ _ _ _ _ _
  ·rw [size_set3]
   have := HGB.out x hx
   omega
  ·have := HP2.out
   omega
  ·exact ((HR3.out.far (show w.heap.size ≠ g by omega)).far (show w.heap.size ≠ g by omega)).far (show w.heap.size ≠ g by omega)
  ·exact ((HO3.out.setCell (Or.inr (Nat.le_refl _)) _).setCell (Or.inr (Nat.le_refl _)) _).setCell (Or.inr (Nat.le_refl _)) _
 ·rw [tr_not hT] at HV
  clear hT
  have HPE := tuck (HPOST.out (numT 0))
  refine (HV.out _ (below1 _ _)).mono ?_
  rintro e w3 ⟨rfl, hb⟩
  have hbb := bAfter (below1 w2 (.cells #[.int .i64 T.kind, .int .i64 T.num, .slice ta T.kids.length tc] 25)) hb
  have HY3 := tuck (HY0.out.below hbb)
  have HO3 := tuck (HO.out.of_below hbb)
  have HR3 := tuck (HR.out.below hbb)
  clear hb hbb
  go_wp2_with fail
  refine (leafS_any 7 0 _).mono ?_
  rintro e w4 ⟨rfl, hb⟩
  replace HY3 := tuck (HY3.out.below hb)
  replace HO3 := tuck (HO3.out.of_below hb)
  replace HR3 := tuck (HR3.out.below hb)
  obtain ⟨zv, v0, v1, v2, vf⟩ := HY3.out.facts
  clear hb
  go_wp2_with fail
  refine bodyPost_ret (v := .agg #[.int .i64 7, .int .i64 0, .slice none 0 0]) (by simp [results, Tryz.results47, go_sem, *]) rfl (HPE.out _ _ [] p2 ?_ List.nodup_nil (fun x hx => by cases hx) (valid_numT (by omega)) ?_ ?_ ?_)
  ·exact SlOwn.nil _ _ _
  ·have := HP2.out
   omega
  ·exact ((HR3.out.far (show w.heap.size ≠ g by omega)).far (show w.heap.size ≠ g by omega)).far (show w.heap.size ≠ g by omega)
  ·exact ((HO3.out.setCell (Or.inr (Nat.le_refl _)) _).setCell (Or.inr (Nat.le_refl _)) _).setCell (Or.inr (Nat.le_refl _)) _
end Go.Proofs.YtlbikgnanabjgaaGreat
namespace Go.Proofs.YtlbikgnanabjgaaGreat
open Go.RowKit
theorem tl_from {w : World} {B : Nat} : ∀ {l : List Tm} {v : Value}, SlX w (fun i => i < B) l v → SlIn w B l v := by
 intro l
 induction l using Tm.ind with
 | h l ih =>
  intro v h
  obtain ⟨a, cap, b, o, rfl, h1, h2, h3⟩ := h.open
  refine ⟨a, cap, b, o, rfl, h1, fun hn => ⟨(h2 hn).1, Nat.not_lt.1 (h2 hn).2.1⟩, RowAt.of_get fun i hi => ?_⟩
  obtain ⟨s, c0, c1, c2, hs⟩ := h3 i hi
  exact TmAt_iff.2 ⟨s, c0, c1, c2, ih i hi hs⟩
def TlPost (w : World) (T : Tm) (e : Ending) (w' : World) : Prop := Below w.heap.size w w' ∧ ∃ (a : Option Addr) (c : Nat), e = .returned (.agg #[.int .i64 T.kind, .int .i64 T.num, .slice a T.kids.length c]) ∧ SlIn w' w.heap.size T.kids (.slice a T.kids.length c)
theorem MadePost.tl {w w' : World} {T : Tm} {e : Ending} (h : MadePost w T e w') : TlPost w T e w' := by
 obtain ⟨hb, v, rfl, s, F, rfl, hs, -, hF⟩ := h
 obtain ⟨a, c, rfl⟩ := hs.form
 exact ⟨hb, a, c, rfl, hs.sl fun g hg => (hF g hg).1⟩
theorem tl_copyS (t : Tm) (ht : sizes t.kids ≤ 1000000) (w : World) (s : Value) (hs : SlIn w 0 t.kids s) : Calls Tryz.prog 17 #[.agg #[.int .i64 t.kind, .int .i64 t.num, s]] w (TlPost w t) := by
 have h := lcopy_any t.kids t.kind t.num w s ht hs
 rw [Tm.eta] at h
 exact h.mono fun _ _ h => h.tl
end Go.Proofs.YtlbikgnanabjgaaGreat
namespace Go.Proofs.YtlbikgnanabjgaaGreat
open Go.RowKit
set_option linter.unusedVariables false
set_option linter.unusedSimpArgs false
theorem setCell_comm (w : World) {p q : Addr} (h : p.block ≠ q.block) (x y : Value) : (w.setCell p x).setCell q y = (w.setCell q y).setCell p x := by
 have hh : ((w.setCell p x).setCell q y).heap = ((w.setCell q y).setCell p x).heap := by
  apply Array.ext_getElem?
  intro i
  by_cases h1 : i = p.block
  ·subst h1
   have h2 : ¬ q.block = p.block := fun e => h e.symm
   simp [World.setCell, Array.getElem?_modify, h2]
  ·by_cases h2 : i = q.block
   ·subst h2
    simp [World.setCell, Array.getElem?_modify, h]
   ·have h1' : ¬ p.block = i := fun e => h1 e.symm
    have h2' : ¬ q.block = i := fun e => h2 e.symm
    simp [World.setCell, Array.getElem?_modify, h1', h2']
 cases w
 simp only [World.setCell] at hh ⊢
 rw [World.mk.injEq]
 simp_all
theorem own_set1 {w : World} {base : Nat} {e : TypeId} {g n cap j : Nat} {xs : List Value} (h : w.ownsRow base e 3 (.slice (some ⟨g, 0, none⟩) n cap) n xs) (hj : j < n * 3) (x : Value) : (w.setCell ⟨g, j, none⟩ x).ownsRow base e 3 (.slice (some ⟨g, 0, none⟩) n cap) n (xs.set j x) := by
 refine ⟨by rw [List.length_set]; exact h.1, ?_⟩
 rcases h.2 with ⟨h1, h2⟩ | ⟨g', cap', cur, h1, hb, hg, hnc, hcm, hcs, htake⟩
 ·cases h1
 ·simp only [Value.slice.injEq, Option.some.injEq, Addr.mk.injEq, and_true, true_and] at h1
  obtain ⟨rfl, rfl⟩ := h1
  refine Or.inr ⟨g, cap, cur.setIfInBounds j x, rfl, hb, block_set hg j x, hnc, hcm, by simpa using hcs, ?_⟩
  rw [Array.toList_setIfInBounds, List.take_set, htake]
theorem set_three (xs : List Value) (a b c a' b' c' : Value) (m : Nat) (hm : xs.length = m) : (((xs ++ [a, b, c]).set m a').set (m + 1) b').set (m + 2) c' = xs ++ [a', b', c'] := by
 subst hm
 simp [List.set_append]
theorem own_set3 {w : World} {base : Nat} {e : TypeId} {g n cap : Nat} {xs : List Value} {a b c : Value} (h : w.ownsRow base e 3 (.slice (some ⟨g, 0, none⟩) (n + 1) cap) (n + 1) (xs ++ [a, b, c])) (a' b' c' : Value) :
  (((w.setCell ⟨g, n * 3, none⟩ a').setCell ⟨g, n * 3 + 1, none⟩ b').setCell ⟨g, n * 3 + 2, none⟩ c').ownsRow base e 3 (.slice (some ⟨g, 0, none⟩) (n + 1) cap) (n + 1) (xs ++ [a', b', c']) := by
 have hl : xs.length = n * 3 := by
  have := h.1
  simp only [List.length_append, List.length_cons, List.length_nil] at this
  omega
 have h3 := own_set1 (own_set1 (own_set1 h (j := n * 3) (by omega) a') (j := n * 3 + 1) (by omega) b') (j := n * 3 + 2) (by omega) c'
 rwa [set_three _ _ _ _ _ _ _ _ hl] at h3
theorem tr_push {B n : Nat} {L : List Tm} {va : Value} {F F2 : List Nat} {Wb w5 : World} {T : Tm} {s : Value} {gg gcap : Nat} {xs : List Value} (hrow : RowG B L va F Wb) (hL : L.length = n) (hxs : Wb.ownsRow B 25 3 va n xs)
  (hs : SlOwn Wb T.kids s F2) (hnd : F2.Nodup) (hF2 : ∀ g ∈ F2, B ≤ g ∧ g < Wb.heap.size ∧ g ∉ F ∧ va.ownBlock ≠ some g)
  (h5 : w5.ownsRow B 25 3 (.slice (some ⟨gg, 0, none⟩) (n + 1) gcap) (n + 1) (xs ++ [.int .i64 0, .int .i64 0, .slice none 0 0])) (hgrow : Wb.grownBy w5 va.ownBlock) (hat : va.ownBlock = some gg ∨ gg = Wb.heap.size) :
  RowG B (L ++ [T]) (.slice (some ⟨gg, 0, none⟩) (n + 1) gcap) (F ++ F2) (((w5.setCell ⟨gg, n * 3, none⟩ (.int .i64 T.kind)).setCell ⟨gg, n * 3 + 1, none⟩ (.int .i64 T.num)).setCell ⟨gg, n * 3 + 2, none⟩ s) ∧
  ∀ i, i < Wb.heap.size → va.ownBlock ≠ some i → (((w5.setCell ⟨gg, n * 3, none⟩ (.int .i64 T.kind)).setCell ⟨gg, n * 3 + 1, none⟩ (.int .i64 T.num)).setCell ⟨gg, n * 3 + 2, none⟩ s).heap[i]? = Wb.heap[i]? := by
 have hkeep : ∀ i, i < Wb.heap.size → va.ownBlock ≠ some i → (((w5.setCell ⟨gg, n * 3, none⟩ (.int .i64 T.kind)).setCell ⟨gg, n * 3 + 1, none⟩ (.int .i64 T.num)).setCell ⟨gg, n * 3 + 2, none⟩ s).heap[i]? = Wb.heap[i]? := fun i hi hn => by
  have hne : i ≠ gg := by
   rintro rfl
   rcases hat with h | h
   ·exact hn h
   ·omega
  rw [Below.heap_setCell _ _ _ _ hne, Below.heap_setCell _ _ _ _ hne, Below.heap_setCell _ _ _ _ hne]
  exact hgrow.block i hi (fun e => hn e.symm)
 refine ⟨?_, hkeep⟩
 obtain ⟨xs', h1, h2⟩ := hrow.grow hL
 have hx : xs' = xs := by
  rcases h1.2 with ⟨e1, e2⟩ | ⟨g, cap, cur, e1, _, r1, _, _, _, r2⟩
  ·have n1 := h1.1
   have n2 := hxs.1
   rw [e2] at n1 n2
   exact (List.length_eq_zero_iff.1 (by simpa using n1)).trans (List.length_eq_zero_iff.1 (by simpa using n2)).symm
  ·rcases hxs.2 with ⟨f1, f2⟩ | ⟨g', cap', cur', f1, _, q1, _, _, _, q2⟩
   ·rw [e1] at f1
    cases f1
   ·rw [e1] at f1
    simp only [Value.slice.injEq, Option.some.injEq, Addr.mk.injEq, and_true, true_and] at f1
    obtain ⟨rfl, rfl⟩ := f1
    rw [r1] at q1
    cases q1
    rw [← r2, ← q2]
 subst hx
 refine h2 _ s F2 _ T hs hnd hF2 (own_set3 h5 _ _ _) ⟨hgrow.os, hgrow.tape, hgrow.output, by simpa [World.setCell] using hgrow.size, fun k hk hn => hkeep k hk (fun e => hn e.symm)⟩ ?_
 rcases hat with h | h
 ·exact Or.inl (by rw [h]; rfl)
 ·exact Or.inr (by rw [h]; rfl)
end Go.Proofs.YtlbikgnanabjgaaGreat
