/-
  Base.
-/
import Derived.Below
import Derived.Deep.Draws
import Derived.WalkKit
namespace Go.Proofs.YtlbikgnanabjgaaGreat
open Go.RowKit
theorem pts : (∀ (a : Act) (i : Nat) (v : Value), a.put (some i) v = { a with tmps := a.tmps.setIfInBounds i v }) ∧ (∀ (a : Act) (v : Value), a.put none v = a) ∧ (∀ {α : Type} (l : List α) (i : Nat) (a : α), l.toArray.setIfInBounds i a = (l.set i a).toArray) ∧ (∀ {α : Type} (x : α) (l : List α) (a : α), (x :: l).set 0 a = a :: l) ∧ ∀ {α : Type} (x : α) (l : List α) (n : Nat) (a : α), (x :: l).set (n + 1) a = x :: l.set n a :=
 ⟨fun _ _ _ => rfl, fun _ _ => rfl, List.setIfInBounds_toArray, fun _ _ _ => rfl, fun _ _ _ _ => rfl⟩
theorem tuck {p : Prop} (h : p) : Hid p := h
inductive Tm where
 | mk (k n : Int) (l : List Tm)
namespace Tm
def kind : Tm → Int | .mk k _ _ => k
def num : Tm → Int | .mk _ n _ => n
def kids : Tm → List Tm | .mk _ _ l => l
end Tm
mutual
def Tm.size : Tm → Nat | .mk _ _ l => 1 + sizes l
def sizes : List Tm → Nat
 | [] => 0
 | t :: l => t.size + sizes l
end
theorem Tm.size_eq (t : Tm) : t.size = 1 + sizes t.kids := by cases t; rw [Tm.size]; rfl
theorem Tm.size_pos (t : Tm) : 1 ≤ t.size := by rw [t.size_eq]; omega
theorem length_le_sizes : ∀ l : List Tm, l.length ≤ sizes l
 | [] => Nat.zero_le _
 | t :: l => by rw [sizes, List.length_cons]; have := length_le_sizes l; have := t.size_pos; omega
theorem sizes_append : ∀ a b : List Tm, sizes (a ++ b) = sizes a + sizes b
 | [], b => by rw [List.nil_append, sizes]; omega
 | t :: a, b => by rw [List.cons_append, sizes, sizes, sizes_append a b]; omega
theorem sizes_take_succ (l : List Tm) (i : Nat) (h : i < l.length) : sizes (l.take (i + 1)) = sizes (l.take i) + l[i].size := by
 rw [List.take_succ_eq_append_getElem h, sizes_append, sizes, sizes]; omega
theorem size_get_le (l : List Tm) (i : Nat) (h : i < l.length) : l[i].size ≤ sizes l := by
 have h1 := sizes_take_succ l i h
 have h2 := sizes_append (l.take (i + 1)) (l.drop (i + 1))
 rw [List.take_append_drop] at h2
 omega
theorem sizes_take_le (l : List Tm) (i : Nat) : sizes (l.take i) ≤ sizes l := by
 have h2 := sizes_append (l.take i) (l.drop i)
 rw [List.take_append_drop] at h2
 omega
theorem kids_get_lt (l : List Tm) (i : Nat) (h : i < l.length) : sizes l[i].kids < sizes l := by
 have h1 := size_get_le l i h
 have h2 := l[i].size_eq
 omega
mutual
def TmAt (w : World) (B : Nat) : Tm → Nat → Nat → Prop
 | .mk k n l, b, o => ∃ (a : Option Addr) (cap b' o' : Nat), w.cell? ⟨b, o, none⟩ = some (.int .i64 k) ∧ w.cell? ⟨b, o + 1, none⟩ = some (.int .i64 n) ∧ w.cell? ⟨b, o + 2, none⟩ = some (.slice a l.length cap) ∧
   l.length ≤ maxLen ∧ (l ≠ [] → a = some ⟨b', o', none⟩ ∧ B ≤ b') ∧ RowAt w B l b' o'
def RowAt (w : World) (B : Nat) : List Tm → Nat → Nat → Prop
 | [], _, _ => True
 | t :: l, b, o => TmAt w B t b o ∧ RowAt w B l b (o + 3)
end
def SlIn (w : World) (B : Nat) (l : List Tm) (v : Value) : Prop :=
 ∃ (a : Option Addr) (cap b o : Nat), v = .slice a l.length cap ∧ l.length ≤ maxLen ∧ (l ≠ [] → a = some ⟨b, o, none⟩ ∧ B ≤ b) ∧ RowAt w B l b o
def TmIn (w : World) (B : Nat) (t : Tm) (v : Value) : Prop := ∃ s, v = .agg #[.int .i64 t.kind, .int .i64 t.num, s] ∧ SlIn w B t.kids s
theorem TmAt_iff {w : World} {B : Nat} {t : Tm} {b o : Nat} : TmAt w B t b o ↔
  ∃ s, w.cell? ⟨b, o, none⟩ = some (.int .i64 t.kind) ∧ w.cell? ⟨b, o + 1, none⟩ = some (.int .i64 t.num) ∧ w.cell? ⟨b, o + 2, none⟩ = some s ∧ SlIn w B t.kids s := by
 cases t with
 | mk k n l =>
  simp only [TmAt, Tm.kind, Tm.num, Tm.kids, SlIn]
  constructor
  ·rintro ⟨a, cap, b', o', h1, h2, h3, h4, h5, h6⟩
   exact ⟨_, h1, h2, h3, a, cap, b', o', rfl, h4, h5, h6⟩
  ·rintro ⟨s, h1, h2, h3, a, cap, b', o', rfl, h4, h5, h6⟩
   exact ⟨a, cap, b', o', h1, h2, h3, h4, h5, h6⟩
theorem RowAt.get {w : World} {B : Nat} : ∀ {l : List Tm} {b o : Nat}, RowAt w B l b o → ∀ (i : Nat) (h : i < l.length), TmAt w B l[i] b (o + i * 3)
 | [], _, _, _, i, h => by simp at h
 | t :: l, b, o, hr, i, h => by
  rw [RowAt] at hr
  match i with
  | 0 => simpa using hr.1
  | i + 1 =>
   have := RowAt.get hr.2 i (by simpa using h)
   rw [List.getElem_cons_succ, show o + (i + 1) * 3 = o + 3 + i * 3 by omega]
   exact this
theorem RowAt.of_get {w : World} {B : Nat} : ∀ {l : List Tm} {b o : Nat}, (∀ (i : Nat) (h : i < l.length), TmAt w B l[i] b (o + i * 3)) → RowAt w B l b o
 | [], _, _, _ => by rw [RowAt]; trivial
 | t :: l, b, o, hr => by
  rw [RowAt]
  refine ⟨by have h0 := hr 0 (by simp); simpa only [List.getElem_cons_zero, Nat.zero_mul, Nat.add_zero] using h0, RowAt.of_get fun i h => ?_⟩
  have := hr (i + 1) (by simpa using h)
  rw [List.getElem_cons_succ, show o + (i + 1) * 3 = o + 3 + i * 3 by omega] at this
  exact this
theorem Tm.ind {p : List Tm → Prop} (h : ∀ l, (∀ i (hi : i < l.length), p l[i].kids) → p l) : ∀ l, p l := by
 have key : ∀ n l, sizes l ≤ n → p l := by
  intro n
  induction n with
  | zero =>
   intro l hl
   refine h l fun i hi => ?_
   have := kids_get_lt l i hi
   omega
  | succ n ih =>
   intro l hl
   exact h l fun i hi => ih _ (by have := kids_get_lt l i hi; omega)
 exact fun l => key _ l (Nat.le_refl _)
theorem SlIn.keep {w w' : World} {B : Nat} : ∀ {l : List Tm} {v : Value}, SlIn w B l v → (∀ p : Addr, B ≤ p.block → p.block < w.heap.size → w'.cell? p = w.cell? p) → SlIn w' B l v := by
 intro l
 induction l using Tm.ind with
 | h l ih =>
  rintro v ⟨a, cap, b, o, rfl, h1, h2, h3⟩ hk
  refine ⟨a, cap, b, o, rfl, h1, h2, RowAt.of_get fun i hi => ?_⟩
  have hB : B ≤ b := (h2 (by intro e; subst e; simp at hi)).2
  obtain ⟨s, c0, c1, c2, hs⟩ := TmAt_iff.1 (h3.get i hi)
  have hb : b < w.heap.size := World.block_lt_of_cell? w _ c0
  exact TmAt_iff.2 ⟨s, (hk ⟨b, _, none⟩ hB hb).trans c0, (hk ⟨b, _, none⟩ hB hb).trans c1, (hk ⟨b, _, none⟩ hB hb).trans c2, ih i hi hs hk⟩
theorem SlIn.below {w w' : World} {B : Nat} {l : List Tm} {v : Value} (h : SlIn w B l v) (hb : Below w.heap.size w w') : SlIn w' B l v :=
 h.keep fun _ _ hp => hb.cell hp
theorem SlIn.mono {w : World} {B B' : Nat} : ∀ {l : List Tm} {v : Value}, SlIn w B l v → B' ≤ B → SlIn w B' l v := by
 intro l
 induction l using Tm.ind with
 | h l ih =>
  rintro v ⟨a, cap, b, o, rfl, h1, h2, h3⟩ hk
  refine ⟨a, cap, b, o, rfl, h1, fun hn => ⟨(h2 hn).1, by have := (h2 hn).2; omega⟩, RowAt.of_get fun i hi => ?_⟩
  obtain ⟨s, c0, c1, c2, hs⟩ := TmAt_iff.1 (h3.get i hi)
  exact TmAt_iff.2 ⟨s, c0, c1, c2, ih i hi hs hk⟩
theorem SlIn.open {w : World} {B : Nat} {l : List Tm} {v : Value} (h : SlIn w B l v) : ∃ (a : Option Addr) (cap b o : Nat), v = .slice a l.length cap ∧ l.length ≤ maxLen ∧ (l ≠ [] → a = some ⟨b, o, none⟩ ∧ B ≤ b ∧ b < w.heap.size) ∧
  ∀ i (hi : i < l.length), ∃ s, w.cell? ⟨b, o + i * 3, none⟩ = some (.int .i64 l[i].kind) ∧ w.cell? ⟨b, o + i * 3 + 1, none⟩ = some (.int .i64 l[i].num) ∧ w.cell? ⟨b, o + i * 3 + 2, none⟩ = some s ∧ SlIn w B l[i].kids s := by
 obtain ⟨a, cap, b, o, rfl, h1, h2, h3⟩ := h
 refine ⟨a, cap, b, o, rfl, h1, fun hn => ⟨(h2 hn).1, (h2 hn).2, ?_⟩, fun i hi => TmAt_iff.1 (h3.get i hi)⟩
 have hi : 0 < l.length := List.length_pos_iff.2 hn
 obtain ⟨s, c0, _⟩ := TmAt_iff.1 (h3.get 0 hi)
 exact World.block_lt_of_cell? w _ c0
theorem SlIn.form {w : World} {B : Nat} {l : List Tm} {v : Value} (h : SlIn w B l v) : ∃ a cap, v = .slice a l.length cap := by
 obtain ⟨a, cap, _, _, h1, _⟩ := h
 exact ⟨a, cap, h1⟩
theorem SlIn.setCell {w : World} {B : Nat} {l : List Tm} {v : Value} (h : SlIn w B l v) {p : Addr} (hp : p.block < B) (u : Value) : SlIn (w.setCell p u) B l v :=
 h.keep fun q hq _ => World.cell?_setCell_other w p q u (fun e => by subst e; omega)
theorem SlIn.nil (w : World) (B : Nat) (a : Option Addr) (cap : Nat) : SlIn w B [] (.slice a 0 cap) :=
 ⟨a, cap, 0, 0, rfl, Nat.zero_le _, fun h => absurd rfl h, by rw [RowAt]; trivial⟩
theorem heap_new (w : World) (o : Obj) : (w.alloc o).heap[w.heap.size]? = some o := by
 show (w.heap.push o)[w.heap.size]? = some o
 simp
theorem block_of_cells {w : World} {g : Nat} {T : TypeId} {cs : Array Value} (h : w.heap[g]? = some (.cells cs T (0, 0))) : g < w.heap.size ∧ (∀ i, w.cell? ⟨g, i, none⟩ = cs[i]?) ∧ ∀ i, w.frozen? ⟨g, i, none⟩ = false := by
 refine ⟨?_, fun i => ?_, fun i => ?_⟩
 ·rcases Nat.lt_or_ge g w.heap.size with hlt | hge
  ·exact hlt
  ·rw [Array.getElem?_eq_none hge] at h; cases h
 ·simp [World.cell?, h]
 ·simp [World.frozen?, h]
theorem block_set {w : World} {g : Nat} {T : TypeId} {cs : Array Value} (h : w.heap[g]? = some (.cells cs T (0, 0))) (i : Nat) (u : Value) : (w.setCell ⟨g, i, none⟩ u).heap[g]? = some (.cells (cs.setIfInBounds i u) T (0, 0)) := by
 simp [World.setCell, Array.getElem?_modify, h]
theorem old_cells {W w1 : World} (hb : Below W.heap.size W w1) : (∀ b o, b < W.heap.size → w1.cell? ⟨b, o, none⟩ = W.cell? ⟨b, o, none⟩) ∧ (∀ b o, b < W.heap.size → w1.frozen? ⟨b, o, none⟩ = W.frozen? ⟨b, o, none⟩) :=
 ⟨fun b o h => hb.cell (p := ⟨b, o, none⟩) h, fun b o h => hb.frozen (p := ⟨b, o, none⟩) h⟩
noncomputable def same {α : Type} (a b : α) : Bool := @decide (a = b) (Classical.propDecidable _)
theorem same_self {α : Type} (a : α) : same a a = true := by simp [same]
theorem same_iff {α : Type} {a b : α} : same a b = true ↔ a = b := by simp [same]
theorem same_false {α : Type} {a b : α} : same a b = false ↔ a ≠ b := by simp [same]
theorem same_mk {t u : Tm} : same t u = (same t.kind u.kind && same t.num u.num && same t.kids u.kids) := by
 cases t; cases u
 rw [Bool.eq_iff_iff, Bool.and_eq_true, Bool.and_eq_true, same_iff, same_iff, same_iff, same_iff]
 simp [Tm.kind, Tm.num, Tm.kids, and_assoc]
theorem take_all {α : Type} {l m : List α} (h : l.length = m.length) (ht : l.take l.length = m.take l.length) : l = m := by
 rw [List.take_length] at ht
 rw [ht, h, List.take_length]
theorem ret_bool {a b : Bool} (h : a = b) : Ending.returned (.bool a) = .returned (.bool b) := by rw [h]
theorem ret_int {k : IntKind} {a b : Int} (h : a = b) : Ending.returned (.int k a) = .returned (.int k b) := by rw [h]
theorem below1 (w : World) (a : Obj) : Below w.heap.size w (w.alloc a) := (Below.refl _ _).alloc (Nat.le_refl _) _
theorem below3 (w : World) (a b c : Obj) : Below w.heap.size w (((w.alloc a).alloc b).alloc c) := ((below1 w a).alloc (by simp) _).alloc (by simp; omega) _
theorem below2 (w : World) (a b : Obj) : Below w.heap.size w ((w.alloc a).alloc b) := (below1 w a).alloc (by simp) _
theorem bAfter {w v u : World} (h : Below w.heap.size w v) (k : Below v.heap.size v u) : Below w.heap.size w u := h.trans (k.mono h.size)
theorem bDrewN {B : Nat} {a w : World} (h : Below B a w) (n : Nat) : Below B a (w.drewN n) := ⟨h.os, h.tape, h.output, h.size, h.block⟩
theorem Tm.eta (t : Tm) : Tm.mk t.kind t.num t.kids = t := by cases t; rfl
theorem ft {p : Prop} (h : false = true) : p := by cases h
def Only (g : Nat) (w w' : World) : Prop := w.grownBy w' (some g)
theorem Only.refl (g : Nat) (w : World) : Only g w w := ⟨rfl, rfl, rfl, Nat.le_refl _, fun _ _ _ => rfl⟩
theorem Only.trans {g : Nat} {a b c : World} (h : Only g a b) (k : Only g b c) : Only g a c :=
 ⟨k.os.trans h.os, k.tape.trans h.tape, k.output.trans h.output, Nat.le_trans h.size k.size, fun i hi hn => (k.block i (Nat.lt_of_lt_of_le hi h.size) hn).trans (h.block i hi hn)⟩
theorem Only.of_below {g : Nat} {a b c : World} (h : Only g a b) (k : Below b.heap.size b c) : Only g a c :=
 h.trans ⟨k.os, k.tape, k.output, k.size, fun i hi _ => k.block i hi⟩
theorem Only.alloc {g : Nat} {a b : World} (h : Only g a b) (o : Obj) : Only g a (b.alloc o) := h.of_below (below1 _ _)
theorem Only.setCell {g : Nat} {a b : World} (h : Only g a b) {p : Addr} (hp : p.block = g ∨ a.heap.size ≤ p.block) (u : Value) : Only g a (b.setCell p u) :=
 ⟨h.os, h.tape, h.output, by simpa [World.setCell] using h.size, fun i hi hn => by
  have hne : i ≠ p.block := by
   rintro rfl
   rcases hp with hp | hp
   ·exact hn (by rw [hp])
   ·omega
  exact (Below.heap_setCell b p u i hne).trans (h.block i hi hn)⟩
theorem Only.drewN {g : Nat} {a b : World} (h : Only g a b) (n : Nat) : Only g a (b.drewN n) := ⟨h.os, h.tape, h.output, h.size, h.block⟩
theorem Only.drew {g : Nat} {a b : World} (h : Only g a b) : Only g a b.drew := ⟨h.os, h.tape, h.output, h.size, h.block⟩
theorem Only.cell {g : Nat} {a b : World} (h : Only g a b) {p : Addr} (hp : p.block < a.heap.size) (hn : p.block ≠ g) : b.cell? p = a.cell? p :=
 World.cell?_of_block (h.block p.block hp (fun e => hn (by injection e)))
theorem Only.frozen {g : Nat} {a b : World} (h : Only g a b) {p : Addr} (hp : p.block < a.heap.size) (hn : p.block ≠ g) : b.frozen? p = a.frozen? p :=
 World.frozen?_of_block (h.block p.block hp (fun e => hn (by injection e)))
theorem Only.below {B g : Nat} {w a b : World} (h : Below B w a) (k : Only g a b) (hg : B ≤ g) (hB : B ≤ a.heap.size) : Below B w b :=
 ⟨k.os.trans h.os, k.tape.trans h.tape, k.output.trans h.output, Nat.le_trans h.size k.size, fun i hi => (k.block i (by omega) (fun e => by injection e; omega)).trans (h.block i hi)⟩
end Go.Proofs.YtlbikgnanabjgaaGreat
