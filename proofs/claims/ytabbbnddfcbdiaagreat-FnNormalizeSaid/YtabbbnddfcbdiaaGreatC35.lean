/-
  VarsL.
-/
import Derived.Test.YtabbbnddfcbdiaaGreatC03
import Derived.Test.YtabbbnddfcbdiaaGreatC29
namespace Go.Proofs.YtabbbnddfcbdiaaGreat
open Go.RowKit
def TX (X : Nat → Prop) (g : Nat) (T : Tm) (a : Option Addr) (c : Nat) (w : World) : Prop := VarAt g T.kind T.num (.slice a T.kids.length c) w ∧ SlX w X T.kids (.slice a T.kids.length c)
theorem TX.tv {X : Nat → Prop} {g : Nat} {T : Tm} {a : Option Addr} {c : Nat} {w : World} (h : TX X g T a c w) : TV g T a c w := ⟨h.1, h.2.sl⟩
theorem TX.below {X : Nat → Prop} {g : Nat} {T : Tm} {a : Option Addr} {c : Nat} {w w' : World} (h : TX X g T a c w) (hb : Below w.heap.size w w') : TX X g T a c w' := ⟨h.1.below hb, h.2.below hb⟩
theorem TV.late {X : Nat → Prop} {g : Nat} {T : Tm} {a : Option Addr} {c : Nat} {w W : World} (h : TV g T a c w) (hb : Below w.heap.size w W) (hX : ∀ i, X i → w.heap.size ≤ i) : TX X g T a c W := by
 have h1 : SlX w (fun _ => False) T.kids (.slice a T.kids.length c) := SlX.of_sl h.sl (fun i hi => hi.elim)
 exact ⟨h.var.below hb, h1.to fun p u _ hc => ⟨fun hx => by
  have h2 := hX _ hx
  have h3 := World.block_lt_of_cell? w p hc
  omega, (hb.cell (World.block_lt_of_cell? w p hc)).trans hc⟩⟩
theorem TX.set3 {X : Nat → Prop} {g : Nat} {T : Tm} {a : Option Addr} {c : Nat} {w : World} (h : TX X g T a c w) {r : Nat} (hr : X r) (hne : g ≠ r) (i j k : Nat) (x y z : Value) : TX X g T a c (((w.setCell ⟨r, i, none⟩ x).setCell ⟨r, j, none⟩ y).setCell ⟨r, k, none⟩ z) :=
 ⟨h.1.far3 hne i j k x y z, ((h.2.set (q := ⟨r, i, none⟩) hr _).set (q := ⟨r, j, none⟩) hr _).set (q := ⟨r, k, none⟩) hr _⟩
theorem TX.store {X : Nat → Prop} {g : Nat} {T : Tm} {a : Option Addr} {c : Nat} {k n : Int} {s : Value} {w : World} (h : VarAt g k n s w) (hs : SlX w X T.kids (.slice a T.kids.length c)) (hg : X g) :
  TX X g T a c (((w.setCell ⟨g, 0, none⟩ (.int .i64 T.kind)).setCell ⟨g, 1, none⟩ (.int .i64 T.num)).setCell ⟨g, 2, none⟩ (.slice a T.kids.length c)) :=
 ⟨h.set3, ((hs.set (q := ⟨g, 0, none⟩) hg _).set (q := ⟨g, 1, none⟩) hg _).set (q := ⟨g, 2, none⟩) hg _⟩
end Go.Proofs.YtabbbnddfcbdiaaGreat
