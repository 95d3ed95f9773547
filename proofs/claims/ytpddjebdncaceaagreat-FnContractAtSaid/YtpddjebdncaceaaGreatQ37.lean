/-
  PlT, PlC, ContrT, LawL, PlS, PlU, PlD.
-/
import Derived.Test.YtpddjebdncaceaaGreatQ03
import Derived.Test.YtpddjebdncaceaaGreatQ16
import Derived.Test.YtpddjebdncaceaaGreatQ20
import Derived.Test.YtpddjebdncaceaaGreatQ21
import Derived.Test.YtpddjebdncaceaaGreatQ22
import Derived.Test.YtpddjebdncaceaaGreatQ24
import Derived.Test.YtpddjebdncaceaaGreatQ28
import Derived.Test.YtpddjebdncaceaaGreatQ29
import Derived.Test.YtpddjebdncaceaaGreatQ30
import Derived.Test.YtpddjebdncaceaaGreatQ33
import Derived.Test.YtpddjebdncaceaaGreatQ34
import Derived.Test.YtpddjebdncaceaaGreatQ35
import Derived.Test.YtpddjebdncaceaaGreatQ36
import Derived.BigQuiet
import Derived.ChangeAlike
import Derived.Deep.DeepCutAuto
import Derived.Deep.QuietTactic
import Derived.Lib.AppendZeros
import Derived.RegionTactic
namespace Go.Proofs.YtpddjebdncaceaaGreat
open Go.RowKit
set_option linter.unusedSimpArgs false
def IsX (w : World) (X : Nat → Prop) (N : Int → Int) (len : Nat) (v : Value) : Prop :=
 ∃ a cap b o, v = .slice a len cap ∧ len ≤ cap ∧ (0 < len → a = some ⟨b, o, none⟩ ∧ ¬ X b ∧ b < w.heap.size) ∧ ∀ i : Nat, i < len → w.cell? ⟨b, o + i, none⟩ = some (I6 (N i))
theorem IsX.form {w : World} {X : Nat → Prop} {N : Int → Int} {len : Nat} {v : Value} (h : IsX w X N len v) : ∃ a cap, v = .slice a len cap := by
 obtain ⟨a, cap, _, _, h, _⟩ := h
 exact ⟨a, cap, h⟩
theorem IsX.to {w w' : World} {X X' : Nat → Prop} {N : Int → Int} {len : Nat} {v : Value} (h : IsX w X N len v) (hk : ∀ b, ¬ X b → b < w.heap.size → ¬ X' b ∧ b < w'.heap.size ∧ ∀ o, w'.cell? ⟨b, o, none⟩ = w.cell? ⟨b, o, none⟩) : IsX w' X' N len v := by
 obtain ⟨a, cap, b, o, rfl, hlc, h1, h2⟩ := h
 refine ⟨a, cap, b, o, rfl, hlc, fun h0 => ?_, fun i hi => ?_⟩
 ·obtain ⟨e, hx, hb⟩ := h1 h0
  obtain ⟨k1, k2, -⟩ := hk b hx hb
  exact ⟨e, k1, k2⟩
 ·obtain ⟨-, hx, hb⟩ := h1 (by omega)
  obtain ⟨-, -, k3⟩ := hk b hx hb
  exact (k3 _).trans (h2 i hi)
theorem IsX.below {w w' : World} {X : Nat → Prop} {N : Int → Int} {len : Nat} {v : Value} (h : IsX w X N len v) (hb : Below w.heap.size w w') : IsX w' X N len v :=
 h.to fun b hx hbw => ⟨hx, Nat.lt_of_lt_of_le hbw hb.size, fun o => hb.cell (p := ⟨b, o, none⟩) hbw⟩
theorem IsX.congr {w : World} {X : Nat → Prop} {N N' : Int → Int} {len : Nat} {v : Value} (h : IsX w X N len v) (hN : ∀ i : Nat, i < len → N' i = N i) : IsX w X N' len v := by
 obtain ⟨a, cap, b, o, rfl, hlc, h1, h2⟩ := h
 exact ⟨a, cap, b, o, rfl, hlc, h1, fun i hi => by rw [hN i hi]; exact h2 i hi⟩
def cellsN (N : Int → Int) (n : Nat) : List Value := (List.range n).map fun j : Nat => I6 (N j)
theorem cellsN_get {N : Int → Int} {n j : Nat} (h : j < n) : (cellsN N n)[j]? = some (I6 (N j)) := by simp [cellsN, h]
theorem cellsN_len (N : Int → Int) (n : Nat) : (cellsN N n).length = n := by simp [cellsN]
def thenN (N : Int → Int) (n : Nat) (N' : Int → Int) : Int → Int := fun j => if j < n then N j else N' (j - n)
theorem cellsN_app (N N' : Int → Int) (n m : Nat) : cellsN N n ++ cellsN N' m = cellsN (thenN N n N') (n + m) := by
 apply List.ext_getElem?
 intro j
 rcases Nat.lt_or_ge j n with h | h
 ·rw [List.getElem?_append_left (by rw [cellsN_len]; exact h), cellsN_get h, cellsN_get (by omega)]
  unfold thenN
  rw [if_pos (by omega)]
 ·rw [List.getElem?_append_right (by rw [cellsN_len]; exact h), cellsN_len]
  rcases Nat.lt_or_ge j (n + m) with h2 | h2
  ·rw [cellsN_get (by omega), cellsN_get h2]
   unfold thenN
   rw [if_neg (by omega), show ((j - n : Nat) : Int) = (j : Int) - n by omega]
  ·rw [List.getElem?_eq_none (by rw [cellsN_len]; omega), List.getElem?_eq_none (by rw [cellsN_len]; omega)]
theorem ownN_isX {w : World} {base n : Nat} {N : Int → Int} {v : Value} {X : Nat → Prop} (h : w.ownsRow base 3 1 v n (cellsN N n)) (hX : ∀ i, X i → i < base) : IsX w X N n v := by
 have hrow := h
 rcases h.2 with ⟨rfl, rfl⟩ | ⟨g, cap, cur, rfl, hb, hg, hnc, -⟩
 ·exact ⟨none, 0, 0, 0, rfl, Nat.le_refl _, fun h => by omega, fun i hi => by omega⟩
 ·refine ⟨_, cap, g, 0, rfl, hnc, fun _ => ⟨rfl, fun hx => ?_, (block_of_cells hg).1⟩, fun i hi => ?_⟩
  ·have := hX _ hx
   omega
  ·have := hrow.cells (g := g) rfl i _ (cellsN_get hi)
   have hadd : (⟨g, 0, none⟩ : Addr).add i = ⟨g, i, none⟩ := by unfold Addr.add; split <;> simp_all
   rw [hadd] at this
   rw [Nat.zero_add]
   exact this
theorem ints_append {W : World} {base n m c : Nat} {N N' : Int → Int} {v : Value} {ao : Option Addr} (h : W.ownsRow base 3 1 v n (cellsN N n)) (hs : IsX W (fun i => v.ownBlock = some i) N' m (.slice ao m c)) (hbase : base ≤ W.heap.size) (hl : n + m ≤ 1000) :
  ∃ v' W', (Builtin.append_ #[28, 28] 28 #[v, .slice ao m c]).run Tryz.prog W = .ok v' W' ∧ W'.ownsRow base 3 1 v' (n + m) (cellsN (thenN N n N') (n + m)) ∧ W.grownBy W' v.ownBlock ∧ (v'.ownBlock = v.ownBlock ∨ v'.ownBlock = some W.heap.size) := by
 obtain ⟨i0, hi0, hz0, hz1, hz2⟩ := info_parts info_int
 have ht := Tryz.underlying28
 by_cases h0 : m = 0
 ·subst h0
  refine ⟨v, W, ?_, ?_, ⟨rfl, rfl, rfl, Nat.le_refl _, fun _ _ _ => rfl⟩, Or.inl rfl⟩
  ·rcases h.2 with ⟨rfl, -⟩ | ⟨g, cap, cur, rfl, -, -, hnc, -⟩
   ·cases ao <;> simp [Builtin.append_, run_underlying ht, sizeOf, typeInfo, hi0, Builtin.lenOf, Builtin.firstCells, storeCells, loadCells, loadCellsFrom]
   ·cases ao <;> simp [Builtin.append_, run_underlying ht, sizeOf, typeInfo, hi0, Builtin.lenOf, Builtin.firstCells, hnc, storeCells, loadCells, loadCellsFrom]
  ·rw [← cellsN_app]
   simpa [cellsN] using h
 ·obtain ⟨a, cap', b, o, he, -, hp, hc⟩ := hs
  cases he
  obtain ⟨rfl, hnx, hbw⟩ := hp (by omega)
  have hadd : ∀ j, (⟨b, o, none⟩ : Addr).add j = ⟨b, o + j, none⟩ := fun j => by unfold Addr.add; split <;> simp_all
  obtain ⟨g, cap, w', hrun, hown, hgrow, hat, -⟩ := run_append_lies (P := Tryz.prog) (w := W) 28 28 base 3 i0 _ 1 8 ht hi0 hz0 hz1 hz2 rfl (by omega) v n (cellsN N n) h ⟨b, o, none⟩ m c (cellsN N' m) (by rw [cellsN_len]; omega) (fun j u hu => by
   rcases Nat.lt_or_ge j m with hj | hj
   ·rw [cellsN_get hj] at hu
    cases hu
    rw [hadd]
    exact hc j hj
   ·rw [List.getElem?_eq_none (by rw [cellsN_len]; exact hj)] at hu
    cases hu) (fun u hu => by
   simp only [cellsN, List.mem_map] at hu
   obtain ⟨j, -, rfl⟩ := hu
   rfl) (by omega) (by unfold maxLen; omega) (by omega) hbase _ rfl
  refine ⟨_, w', hrun, ?_, hgrow, ?_⟩
  ·rw [← cellsN_app]
   exact hown
  ·rcases hat with hat | hat
   ·exact Or.inl (by rw [hat]; rfl)
   ·exact Or.inr (by rw [hat]; rfl)
def Sm (u : Value) : Prop := ∃ b o n c, u = .slice (some ⟨b, o, none⟩) n c
def RowP (base : Nat) (L : List ((Int → Int) × Nat)) (v : Value) (w : World) : Prop :=
 ∃ vs : List Value, vs.length = L.length ∧ w.ownsRow base 28 1 v L.length vs ∧ ∀ j (h : j < L.length), ∃ u, vs[j]? = some u ∧ IsX w (fun i => v.ownBlock = some i ∨ i < base) L[j].1 L[j].2 u ∧ Sm u
theorem RowP.made (W : World) (base : Nat) (h : base ≤ W.heap.size) : RowP base [] (.slice (some ⟨W.heap.size, 0, none⟩) 0 0) (W.alloc (.cells #[] 28)) := by
 have := World.ownsRow_made W #[] 0 (base := base) (e := 28) (size := 1) h (by simp [maxLen]) rfl
 exact ⟨[], rfl, by simpa using this, fun j h => by simp at h⟩
theorem RowP.form {base : Nat} {L : List ((Int → Int) × Nat)} {v : Value} {w : World} (h : RowP base L v w) : ∃ a cap, v = .slice a L.length cap := by
 obtain ⟨vs, -, h, -⟩ := h
 rcases h.2 with ⟨h1, h2⟩ | ⟨g, cap, _, h1, _⟩
 ·exact ⟨none, 0, by rw [h1, h2]⟩
 ·exact ⟨_, _, h1⟩
theorem RowP.lt {base : Nat} {L : List ((Int → Int) × Nat)} {v : Value} {w : World} (h : RowP base L v w) : ∀ g, v.ownBlock = some g → base ≤ g ∧ g < w.heap.size := by
 obtain ⟨vs, -, h, -⟩ := h
 exact h.lt
theorem RowP.below {base : Nat} {L : List ((Int → Int) × Nat)} {v : Value} {w w' : World} (h : RowP base L v w) (hb : Below w.heap.size w w') : RowP base L v w' := by
 obtain ⟨vs, h1, h2, h3⟩ := h
 exact ⟨vs, h1, h2.kept (grown_none hb) (by cases v.ownBlock <;> simp), fun j hj => by
  obtain ⟨u, k1, k2, k3⟩ := h3 j hj
  exact ⟨u, k1, k2.below hb, k3⟩⟩
theorem RowP.push {base : Nat} {L : List ((Int → Int) × Nat)} {v v' u : Value} {W W2 w1 : World} {N : Int → Int} {len : Nat} {vs : List Value} (h1 : vs.length = L.length) (h3 : ∀ j (h : j < L.length), ∃ u, vs[j]? = some u ∧ IsX W (fun i => v.ownBlock = some i ∨ i < base) L[j].1 L[j].2 u ∧ Sm u) (hs : IsX W (fun i => v.ownBlock = some i ∨ i < base) N len u) (hsm : Sm u)
  (hW : Below W.heap.size W W2) (hown : w1.ownsRow base 28 1 v' (L.length + 1) (vs ++ [u])) (hgrow : W2.grownBy w1 v.ownBlock) (hat : v'.ownBlock = v.ownBlock ∨ ∃ g, v'.ownBlock = some g ∧ W.heap.size ≤ g) : RowP base (L ++ [(N, len)]) v' w1 := by
 have key : ∀ (N : Int → Int) (len : Nat) (u : Value), IsX W (fun i => v.ownBlock = some i ∨ i < base) N len u → IsX w1 (fun i => v'.ownBlock = some i ∨ i < base) N len u := fun N len u h => h.to fun b hx hb => by
  have hb2 : b < W2.heap.size := Nat.lt_of_lt_of_le hb hW.size
  refine ⟨fun hx' => ?_, Nat.lt_of_lt_of_le hb2 hgrow.size, fun o => (World.cell?_of_block (hgrow.block b hb2 (fun e => hx (Or.inl e.symm)))).trans (hW.cell (p := ⟨b, o, none⟩) hb)⟩
  rcases hx' with hx' | hx'
  rotate_left
  ·exact hx (Or.inr hx')
  rcases hat with hat | ⟨g, hg, hge⟩
  ·exact hx (Or.inl (hat ▸ hx'))
  ·rw [hg] at hx'
   injection hx' with e
   omega
 refine ⟨vs ++ [u], by simp [h1], by rw [List.length_append]; exact hown, fun j hj => ?_⟩
 rw [List.length_append, List.length_singleton] at hj
 rcases Nat.lt_or_ge j L.length with hlt | hge
 ·obtain ⟨x, k1, k2, k3⟩ := h3 j hlt
  refine ⟨x, by rw [List.getElem?_append_left (by omega)]; exact k1, ?_, k3⟩
  rw [List.getElem_append_left hlt]
  exact key _ _ _ k2
 ·have e : j = L.length := by omega
  subst e
  refine ⟨u, by rw [List.getElem?_append_right (by omega), h1]; simp, ?_, hsm⟩
  rw [List.getElem_append_right (Nat.le_refl _)]
  simp only [Nat.sub_self, List.getElem_cons_zero]
  exact key _ _ _ hs
end Go.Proofs.YtpddjebdncaceaaGreat
namespace Go.Proofs.YtpddjebdncaceaaGreat
open Go.RowKit
def ixAt (p : List (Tm × Nat)) : Int → Int := fun j => (((p[j.toNat]?).map (·.2)).getD 0 : Nat)
theorem ixAt_eq (p : List (Tm × Nat)) (j : Nat) (h : j < p.length) : ixAt p (j : Int) = ((p[j].2 : Nat) : Int) := by
 unfold ixAt
 rw [Int.toNat_natCast, List.getElem?_eq_getElem h]
 rfl
end Go.Proofs.YtpddjebdncaceaaGreat
namespace Go.Proofs.YtpddjebdncaceaaGreat
open Go.RowKit
def plcOf (rd : Bool) (L : List (List (Tm × Nat) × Tm)) : List ((Int → Int) × Nat) := (L.filter fun y => !rd || decide (y.2.redex ≠ 0)).map fun y => (ixAt y.1, y.1.length)
theorem plcOf_app (rd : Bool) (A B : List (List (Tm × Nat) × Tm)) : plcOf rd (A ++ B) = plcOf rd A ++ plcOf rd B := by simp [plcOf]
theorem ixAt_snoc (p : List (Tm × Nat)) (t : Tm) (q : Nat) (j : Nat) (h : j < p.length + 1) : ixAt (p ++ [(t, q)]) (j : Int) = if j < p.length then ixAt p (j : Int) else (q : Int) := by
 rw [ixAt_eq _ _ (by simp; omega)]
 by_cases hj : j < p.length
 ·rw [if_pos hj, ixAt_eq _ _ hj, List.getElem_append_left hj]
 ·have e : j = p.length := by omega
  subst e
  rw [if_neg hj, List.getElem_append_right (Nat.le_refl _)]
  simp
theorem grown_two {A B C : World} {r r' : Option Nat} (h : A.grownBy B r) (k : B.grownBy C r') (hr : r' = r ∨ ∃ g, r' = some g ∧ A.heap.size ≤ g) : A.grownBy C r :=
 ⟨k.os.trans h.os, k.tape.trans h.tape, k.output.trans h.output, Nat.le_trans h.size k.size, fun i hi hn => (k.block i (Nat.lt_of_lt_of_le hi h.size) (fun e => by
  rcases hr with hr | ⟨g, hr, hg⟩
  ·exact hn (hr ▸ e)
  ·rw [hr] at e
   injection e with e
   omega)).trans (h.block i hi hn)⟩
theorem grown_below {A B C : World} {r : Option Nat} (h : Below A.heap.size A B) (k : B.grownBy C r) : A.grownBy C r :=
 ⟨k.os.trans h.os, k.tape.trans h.tape, k.output.trans h.output, Nat.le_trans h.size k.size, fun i hi hn => (k.block i (Nat.lt_of_lt_of_le hi h.size) hn).trans (h.block i hi)⟩
def PlPost (base : Nat) (R : List ((Int → Int) × Nat)) (r : Option Nat) (w : World) (e : Ending) (w' : World) : Prop :=
 w.grownBy w' r ∧ ∃ v, e = .returned v ∧ RowP base R v w' ∧ (v.ownBlock = r ∨ ∃ g, v.ownBlock = some g ∧ w.heap.size ≤ g)
end Go.Proofs.YtpddjebdncaceaaGreat
namespace Go.Proofs.YtpddjebdncaceaaGreat
open Go.RowKit
def AtPost (t : Tm) (N : Int → Int) (len : Nat) (w : World) (e : Ending) (w' : World) : Prop :=
 Below w.heap.size w w' ∧ ((∃ (p : List (Tm × Nat)) (x : Tm) (a : Option Addr) (c : Nat), way t N len = some (p, x) ∧ e = .returned (.tuple #[.agg #[I6 x.kind, I6 x.num, .slice a x.kids.length c], .bool true]) ∧ SlIn w 0 x.kids (.slice a x.kids.length c)) ∨ (way t N len = none ∧ e = .returned (.tuple #[.agg #[I6 0, I6 0, .slice none 0 0], .bool false])))
set_option maxRecDepth 100000 in
set_option maxHeartbeats 1600000 in
theorem l8at_any (t : Tm) (N : Int → Int) (len : Nat) (hlen : len ≤ 1048576) (w : World) (s vp : Value) (hs : SlIn w 0 t.kids s) (hp : Ints w 0 N len vp) :
  Calls Tryz.prog 82 #[.agg #[I6 t.kind, I6 t.num, s], vp] w (AtPost t N len w) := by
 obtain ⟨a, c, rfl⟩ := hs.form
 obtain ⟨pa, pc, pb, po, rfl, hp1, hp2⟩ := hp
 have HPY : Hid (∀ (w' : World) (p : List (Tm × Nat)) (x : Tm) (a : Option Addr) (c : Nat), Below w.heap.size w w' → way t N len = some (p, x) → SlIn w 0 x.kids (.slice a x.kids.length c) → AtPost t N len w (.returned (.tuple #[.agg #[I6 x.kind, I6 x.num, .slice a x.kids.length c], .bool true])) w') := tuck fun w' p x a c h1 h2 h3 => ⟨h1, Or.inl ⟨p, x, a, c, h2, rfl, h3⟩⟩
 have HPN : Hid (∀ w', Below w.heap.size w w' → way t N len = none → AtPost t N len w (.returned (.tuple #[.agg #[I6 0, I6 0, .slice none 0 0], .bool false])) w') := tuck fun w' h1 h2 => ⟨h1, Or.inr ⟨h2, rfl⟩⟩
 generalize AtPost t N len w = post at *
 have HS := tuck hs
 have HP1 := tuck hp1
 have HP2 := tuck hp2
 have HBX := tuck ((VarAt.new w t.kind t.num (.slice a t.kids.length c)).below (below1 _ (.cells #[I6 0, I6 0, .slice none 0 0] 34)))
 have HBR := tuck (var_new1 w (.cells #[I6 t.kind, I6 t.num, .slice a t.kids.length c] 34) 0 0 (.slice none 0 0))
 clear hs hp1 hp2
 have HB0 := tuck (below2 w (.cells #[I6 t.kind, I6 t.num, .slice a t.kids.length c] 34) (.cells #[I6 0, I6 0, .slice none 0 0] 34))
 go_enter Tryz.func82, Tryz.ntmps82
 go_wp2_with fail
 generalize (w.alloc (.cells #[I6 t.kind, I6 t.num, .slice a t.kids.length c] 34)).alloc (.cells #[I6 0, I6 0, .slice none 0 0] 34) = W0 at *
 go_loopw [6] (fun i wr => ∃ (q : Nat) (p : List (Tm × Nat)) (x : Tm) (sx : Value), q ≤ len ∧ i = I6 q ∧ Below w.heap.size w wr ∧ way t N q = some (p, x) ∧ VarAt w.heap.size x.kind x.num sx wr ∧ VarAt (w.heap.size + 1) 0 0 (.slice none 0 0) wr ∧ SlIn w 0 x.kids sx) (fun i _ => len - (intOf i).toNat)
 case atStart => exact ⟨0, [], t, _, Nat.zero_le _, rfl, HB0.out, rfl, HBX.out, HBR.out, HS.out⟩
 case round =>
  obtain ⟨q, p, x, sx, hq, rfl, hb, hw, hv, hr, hsx⟩ := hrel
  obtain ⟨xa, xc, xb, xo, rfl, hxl, hxp, hxc⟩ := hsx.open
  unfold maxLen at hxl
  have HB := tuck hb
  have HW := tuck hw
  have HV := tuck hv
  have HR := tuck hr
  have HSX := tuck hsx
  have HXC := tuck hxc
  have HXP := tuck hxp
  obtain ⟨z0, a0, a1, a2, af⟩ := HV.out.facts
  obtain ⟨z1, r0, r1, r2, rf⟩ := HR.out.facts
  clear hb hw hv hr hsx hxc hxp
  by_cases hlt : q < len
  ·have hlti : ((q : Int) < (len : Int)) := by omega
   obtain ⟨rfl, -, hbl⟩ := HP1.out (by omega)
   have c0 := (HB.out.cell (p := ⟨pb, po + q, none⟩) hbl).trans (HP2.out q hlt)
   have hpb := World.block_lt_of_cell? wr _ c0
   have hqi : (0 : Int) ≤ (q : Int) := by omega
   by_cases hi : 0 ≤ N q ∧ N q < (x.kids.length : Int)
   ·obtain ⟨i, hNi⟩ : ∃ i : Nat, N q = (i : Int) := ⟨(N q).toNat, by omega⟩
    have hwy := way_yes HW.out hi
    rw [hNi] at c0 hi hwy
    rw [show ((i : Int)).toNat = i by omega] at hwy
    have hix : i < x.kids.length := by omega
    rw [kidT_eq hix] at hwy
    obtain ⟨rfl, -, hxb⟩ := HXP.out (by intro e; rw [e] at hix; simp at hix)
    obtain ⟨sv, k0, k1, k2, hsv⟩ := HXC.out i hix
    obtain ⟨sa, sc, rfl⟩ := hsv.form
    replace k0 := (HB.out.cell (p := ⟨xb, xo + i * 3, none⟩) hxb).trans k0
    replace k1 := (HB.out.cell (p := ⟨xb, xo + i * 3 + 1, none⟩) hxb).trans k1
    replace k2 := (HB.out.cell (p := ⟨xb, xo + i * 3 + 2, none⟩) hxb).trans k2
    have hxr := World.block_lt_of_cell? wr _ k0
    obtain ⟨hi1, hi2⟩ := hi
    have hi3 : decide ((x.kids.length : Int) ≤ (i : Int)) = false := by simp; omega
    have hi4 : decide ((i : Int) < 0) = false := by simp
    have HWY := tuck hwy
    have HSV := tuck hsv
    clear hwy hNi hsv HXC HXP
    generalize x.kids[i] = y at *
    go_wp2_with fail
    go_quiet (fail)
    go_wp2_with fail
    go_region
    go_wp2_with fail
    go_roundw
    case rel => exact ⟨q + 1, _, y, .slice sa y.kids.length sc, by omega, by go_num, bSet3 (bDrewN HB.out (nq + 1)) (Nat.le_refl _) _ _ _ _ _ _, HWY.out, VarAt.set3 (w := wr.drewN (nq + 1)) HV.out, VarAt.far3 (w := wr.drewN (nq + 1)) HR.out (by omega) _ _ _ _ _ _, HSV.out⟩
    case measure => simp [intOf]; omega
   ·have hno := way_stays (way_no HW.out hi) (len - (q + 1))
    rw [show q + 1 + (len - (q + 1)) = len by omega] at hno
    generalize N q = nq at *
    by_cases h0 : nq < 0
    ·have h1 : decide (nq < 0) = true := by simpa using h0
     clear hi
     go_wp2_with fail
     go_quiet (fail)
     go_wp2_with fail
     refine bodyPost_ret (v := .tuple #[.agg #[I6 0, I6 0, .slice none 0 0], .bool false]) (by simp [results, Tryz.results82, go_sem, *]) rfl ?_
     exact HPN.out _ (bSet3 (bDrewN HB.out _) (Nat.le_succ _) _ _ _ _ _ _) hno
    ·have hge : (x.kids.length : Int) ≤ nq := by omega
     have h1 : decide (nq < 0) = false := by simpa using h0
     have h2 : decide ((x.kids.length : Int) ≤ nq) = true := by simpa using hge
     clear hi
     go_wp2_with fail
     go_quiet (fail)
     go_wp2_with fail
     refine bodyPost_ret (v := .tuple #[.agg #[I6 0, I6 0, .slice none 0 0], .bool false]) (by simp [results, Tryz.results82, go_sem, *]) rfl ?_
     exact HPN.out _ (bSet3 (bDrewN HB.out _) (Nat.le_succ _) _ _ _ _ _ _) hno
  ·obtain rfl : q = len := by omega
   have hlti : ¬ ((q : Int) < (q : Int)) := by omega
   clear hlt
   go_wp2_with fail
   refine bodyPost_ret (v := .tuple #[.agg #[I6 x.kind, I6 x.num, .slice xa x.kids.length xc], .bool true]) (by simp [results, Tryz.results82, go_sem, *]) rfl ?_
   exact HPY.out _ p x xa xc (bSet3 HB.out (Nat.le_succ _) _ _ _ _ _ _) HW.out HSX.out
end Go.Proofs.YtpddjebdncaceaaGreat
namespace Go.Proofs.YtpddjebdncaceaaGreat
open Go.RowKit
theorem tl_sl3 {w : World} {B gz : Nat} {l : List Tm} {v x y z : Value} (h : SlIn w B l v) (hg : gz < B) : SlIn (((w.setCell ⟨gz, 0, none⟩ x).setCell ⟨gz, 1, none⟩ y).setCell ⟨gz, 2, none⟩ z) B l v :=
 ((h.setCell (p := ⟨gz, 0, none⟩) hg _).setCell (p := ⟨gz, 1, none⟩) hg _).setCell (p := ⟨gz, 2, none⟩) hg _
end Go.Proofs.YtpddjebdncaceaaGreat
namespace Go.Proofs.YtpddjebdncaceaaGreat
open Go.RowKit
set_option maxRecDepth 100000 in
set_option maxHeartbeats 1600000 in
theorem termAtS_any (t : Tm) (N : Int → Int) (len : Nat) (hlen : len ≤ 1048576) (w : World) (vt vp : Value) (ht : TmIn w 0 t vt) (hp : Ints w 0 N len vp) :
  Calls Tryz.prog 46 #[vt, vp] w (TlRes w (IsPlace t N len) (wayT t N len)) := by
 obtain ⟨s, rfl, hs⟩ := ht
 obtain ⟨a, c, rfl⟩ := hs.form
 obtain ⟨pa, pc, rfl⟩ := hp.form
 have HNO : Hid (¬ IsPlace t N len → ∀ w', Below w.heap.size w w' → TlRes w (IsPlace t N len) (wayT t N len) (.returned (.tuple #[.agg #[I6 0, I6 0, .slice none 0 0], .bool false])) w') := tuck fun h w' hb => TlRes.no h hb
 have HYES : Hid (IsPlace t N len → ∀ w' a c, Below w.heap.size w w' → SlIn w' w.heap.size (wayT t N len).kids (.slice a (wayT t N len).kids.length c) → TlRes w (IsPlace t N len) (wayT t N len) (.returned (.tuple #[.agg #[I6 (wayT t N len).kind, I6 (wayT t N len).num, .slice a (wayT t N len).kids.length c], .bool true])) w') := tuck fun h w' a c hb hs => TlRes.yes h hb hs
 generalize TlRes w (IsPlace t N len) (wayT t N len) = post at *
 have HS := tuck hs
 have HP := tuck hp
 have HBX := tuck ((VarAt.new w t.kind t.num (.slice a t.kids.length c)).below (below1 _ (.cells #[I6 0, I6 0, .slice none 0 0] 34)))
 have HBR := tuck (var_new1 w (.cells #[I6 t.kind, I6 t.num, .slice a t.kids.length c] 34) 0 0 (.slice none 0 0))
 clear hs hp
 have HB0 := tuck (below2 w (.cells #[I6 t.kind, I6 t.num, .slice a t.kids.length c] 34) (.cells #[I6 0, I6 0, .slice none 0 0] 34))
 go_enter Tryz.func46, Tryz.ntmps46
 go_wp2_with fail
 generalize (w.alloc (.cells #[I6 t.kind, I6 t.num, .slice a t.kids.length c] 34)).alloc (.cells #[I6 0, I6 0, .slice none 0 0] 34) = W0 at *
 refine (validS_any t W0 _ ⟨_, rfl, HS.out.below HB0.out⟩).mono ?_
 rintro e w1 ⟨rfl, hb1⟩
 have HB1 := tuck (bAfter HB0.out hb1)
 have HR1 := tuck (HBR.out.below hb1)
 obtain ⟨z, d0, d1, d2, df⟩ := (HBX.out.below hb1).facts
 clear hb1 HB0 HBX HBR
 by_cases hv : t.Valid
 case neg =>
  rw [tr_not hv]
  obtain ⟨z1, r0, r1, r2, rf⟩ := HR1.out.facts
  go_wp2_with fail
  refine bodyPost_ret (v := .tuple #[.agg #[I6 0, I6 0, .slice none 0 0], .bool false]) (by simp [results, Tryz.results46, go_sem, *]) rfl (HNO.out (fun h => hv h.1) _ ?_)
  exact bSet3 HB1.out (Nat.le_succ _) _ _ _ _ _ _
 rw [tr_of hv]
 go_wp2_with fail
 refine (l8at_any t N len hlen w1 _ _ (HS.out.below HB1.out) (HP.out.below HB1.out)).mono ?_
 rintro e w2 ⟨hb2, hat⟩
 have HB2 := tuck (bAfter HB1.out hb2)
 have HR2 := tuck (HR1.out.below hb2)
 clear z d0 d1 d2 df
 rcases hat with ⟨p, x, xa, xc, hw, rfl, hsx⟩ | ⟨hw, rfl⟩
 ·have hpl := is_place hv hw
  have hsz := (valid_bounds (way_ok hv _ _ _ hw).valid).1
  have hb3 := below1 w2 (.cells #[I6 x.kind, I6 x.num, .slice xa x.kids.length xc] 34)
  have HY := tuck (HYES.out hpl.1)
  rw [hpl.2.2] at HY
  obtain ⟨zx, x0, x1, x2, -⟩ := (VarAt.new w2 x.kind x.num (.slice xa x.kids.length xc)).facts
  have HCP := tuck (tl_copyS x (by omega) _ _ ((hsx.below hb2).below hb3))
  have HB3 := tuck (bAfter HB2.out hb3)
  have HR3 := tuck (HR2.out.below hb3)
  clear hw hsx hpl hsz hb3 hb2 HYES HNO HB2 HR2 HB1 HR1
  go_wp2_with fail
  refine HCP.out.mono ?_
  rintro e w4 ⟨hb4, ya, yc, rfl, hy⟩
  obtain ⟨z1, r0, r1, r2, rf⟩ := (HR3.out.below hb4).facts
  have HZ := tuck (show w.heap.size + 1 < _ from HR3.out.facts.1)
  go_wp2_with fail
  refine bodyPost_ret (v := .tuple #[.agg #[I6 x.kind, I6 x.num, .slice ya x.kids.length yc], .bool true]) (by simp [results, Tryz.results46, go_sem, *]) rfl (HY.out _ ya yc ?_ ?_)
  ·exact bSet3 (bAfter HB3.out hb4) (Nat.le_succ _) _ _ _ _ _ _
  ·exact SlIn.mono (tl_sl3 hy HZ.out) HB3.out.size
 ·have hno : ¬ IsPlace t N len := fun h => by have := h.2; rw [hw] at this; cases this
  have hb3 := below1 w2 (.cells #[I6 0, I6 0, .slice none 0 0] 34)
  have HB3 := tuck (bAfter HB2.out hb3)
  obtain ⟨z1, r0, r1, r2, rf⟩ := (HR2.out.below hb3).facts
  clear hb3
  go_wp2_with fail
  refine bodyPost_ret (v := .tuple #[.agg #[I6 0, I6 0, .slice none 0 0], .bool false]) (by simp [results, Tryz.results46, go_sem, *]) rfl (HNO.out hno _ ?_)
  exact bSet3 HB3.out (Nat.le_succ _) _ _ _ _ _ _
end Go.Proofs.YtpddjebdncaceaaGreat
namespace Go.Proofs.YtpddjebdncaceaaGreat
open Go.RowKit
theorem lcontract_any (t : Tm) (hr : t.rootOk) (hk : ∀ i (hi : i < t.kids.length), t.kids[i].Valid) (h0 : t.redex ≠ 0) (w : World) (s : Value) (hs : SlIn w 0 t.kids s) :
  Calls Tryz.prog 50 #[.agg #[I6 t.kind, I6 t.num, s]] w (SPost w t.contr) := by
 rcases redex_shape hr h0 with ⟨e, -⟩ | ⟨e, -⟩ | ⟨e, -⟩ | ⟨e, -⟩ | ⟨e, -⟩ | ⟨e, -⟩
 ·exact lcontr1_any t hr hk e w s hs
 ·exact lcontr2_any t hr hk e w s hs
 ·exact lcontr3_any t hr hk e w s hs
 ·exact lcontr4_any t hr hk e w s hs
 ·exact lcontr5_any t hr hk e w s hs
 ·exact lcontr6_any t hr hk e w s hs
end Go.Proofs.YtpddjebdncaceaaGreat
