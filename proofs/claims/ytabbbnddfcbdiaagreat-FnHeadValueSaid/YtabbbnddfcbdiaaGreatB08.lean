/-
  Row, Num, SFree, Sub.
-/
import Derived.Test.YtabbbnddfcbdiaaGreatB02
import Derived.Test.YtabbbnddfcbdiaaGreatB03
import Derived.Deep.RegionHeld3
import Derived.IntWalk
import Derived.ProofKit
import Derived.Test.YtabbbnddfcbdiaaGreatProg
import Derived.WalkSpells
namespace Go.Proofs.YtabbbnddfcbdiaaGreat
open Go.RowKit
def cellsL : List (Tm × Value) → List Value
 | [] => []
 | (t, s) :: r => .int .i64 t.kind :: .int .i64 t.num :: s :: cellsL r
theorem cellsL_length : ∀ r : List (Tm × Value), (cellsL r).length = r.length * 3
 | [] => rfl
 | (t, s) :: r => by simp only [cellsL, List.length_cons, cellsL_length r]; omega
theorem RowAt.list {w : World} {B : Nat} : ∀ {l : List Tm} {b o : Nat}, RowAt w B l b o → ∃ r : List (Tm × Value), r.map (·.1) = l ∧ (∀ j u, (cellsL r)[j]? = some u → w.cell? ⟨b, o + j, none⟩ = some u) ∧ ∀ x ∈ r, SlIn w B x.1.kids x.2
 | [], _, _, _ => ⟨[], rfl, fun j u h => by simp [cellsL] at h, fun x h => by cases h⟩
 | t :: l, b, o, h => by
  rw [RowAt] at h
  obtain ⟨s, c0, c1, c2, hs⟩ := TmAt_iff.1 h.1
  obtain ⟨r, hr, hc, hx⟩ := RowAt.list h.2
  refine ⟨(t, s) :: r, by rw [List.map_cons, hr], fun j u hu => ?_, fun x hx' => ?_⟩
  ·match j with
   | 0 => simp only [cellsL, List.getElem?_cons_zero, Option.some.injEq] at hu; subst hu; exact c0
   | 1 => simp only [cellsL, List.getElem?_cons_succ, List.getElem?_cons_zero, Option.some.injEq] at hu; subst hu; exact c1
   | 2 => simp only [cellsL, List.getElem?_cons_succ, List.getElem?_cons_zero, Option.some.injEq] at hu; subst hu; exact c2
   | j + 3 =>
    simp only [cellsL, List.getElem?_cons_succ] at hu
    rw [show o + (j + 3) = o + 3 + j by omega]
    exact hc j u hu
  ·rcases List.mem_cons.1 hx' with rfl | h
   ·exact hs
   ·exact hx x h
theorem RowAt.of_list {w : World} {B : Nat} : ∀ {r : List (Tm × Value)} {b o : Nat}, (∀ j u, (cellsL r)[j]? = some u → w.cell? ⟨b, o + j, none⟩ = some u) → (∀ x ∈ r, SlIn w B x.1.kids x.2) → RowAt w B (r.map (·.1)) b o
 | [], _, _, _, _ => by rw [List.map_nil, RowAt]; trivial
 | (t, s) :: r, b, o, hc, hx => by
  rw [List.map_cons, RowAt]
  refine ⟨TmAt_iff.2 ⟨s, hc 0 _ rfl, hc 1 _ rfl, hc 2 _ rfl, hx _ (by simp)⟩, RowAt.of_list (fun j u hu => ?_) (fun x h => hx x (by simp [h]))⟩
  rw [show o + 3 + j = o + (j + 3) by omega]
  exact hc (j + 3) u hu
theorem RowOwn.of_list {w : World} : ∀ {r : List (Tm × Value × List Nat)} {b o : Nat}, (∀ j u, (cellsL (r.map fun x => (x.1, x.2.1)))[j]? = some u → w.cell? ⟨b, o + j, none⟩ = some u) → (∀ x ∈ r, SlOwn w x.1.kids x.2.1 x.2.2) → RowOwn w (r.map (·.1)) b o (r.flatMap (·.2.2))
 | [], _, _, _, _ => by rw [List.map_nil, RowOwn]; rfl
 | (t, s, F) :: r, b, o, hc, hx => by
  rw [List.map_cons, RowOwn]
  refine ⟨F, r.flatMap (·.2.2), by simp, TmOwn_iff.2 ⟨s, hc 0 _ rfl, hc 1 _ rfl, hc 2 _ rfl, hx _ (by simp)⟩, RowOwn.of_list (fun j u hu => ?_) (fun x h => hx x (by simp [h]))⟩
  rw [show o + 3 + j = o + (j + 3) by omega]
  exact hc (j + 3) u hu
theorem SlOwn.alloc {w : World} {l : List Tm} {v : Value} {F : List Nat} (h : SlOwn w l v F) (hF : ∀ g ∈ F, g < w.heap.size) (o : Obj) : SlOwn (w.alloc o) l v F :=
 h.keep fun g hg => SameAt.of_block (Below.heap_alloc _ _ _ (hF g hg))
theorem SlOwn.below {w w' : World} {l : List Tm} {v : Value} {F : List Nat} (h : SlOwn w l v F) (hF : ∀ g ∈ F, g < w.heap.size) (hb : Below w.heap.size w w') : SlOwn w' l v F :=
 h.keep fun g hg => SameAt.of_block (hb.block _ (hF g hg))
theorem SlOwn.setCell {w : World} {l : List Tm} {v : Value} {F : List Nat} (h : SlOwn w l v F) {p : Addr} (hp : p.block ∉ F) (u : Value) : SlOwn (w.setCell p u) l v F :=
 h.keep fun g hg => SameAt.of_block (Below.heap_setCell w p u g (fun e => hp (by rw [← e]; exact hg)))
theorem SlOwn.set3 {w : World} {l : List Tm} {v : Value} {F : List Nat} (h : SlOwn w l v F) {g : Nat} (hp : g ∉ F) (a b c : Nat) (x y z : Value) : SlOwn (((w.setCell ⟨g, a, none⟩ x).setCell ⟨g, b, none⟩ y).setCell ⟨g, c, none⟩ z) l v F :=
 ((h.setCell (p := ⟨g, a, none⟩) hp _).setCell (p := ⟨g, b, none⟩) hp _).setCell (p := ⟨g, c, none⟩) hp _
theorem bSet3 {B : Nat} {a w : World} (h : Below B a w) {g : Nat} (hg : B ≤ g) (i j k : Nat) (x y z : Value) : Below B a (((w.setCell ⟨g, i, none⟩ x).setCell ⟨g, j, none⟩ y).setCell ⟨g, k, none⟩ z) :=
 ((h.setCell (p := ⟨g, i, none⟩) hg _).setCell (p := ⟨g, j, none⟩) hg _).setCell (p := ⟨g, k, none⟩) hg _
theorem size_set3 (w : World) (g i j k : Nat) (x y z : Value) : (((w.setCell ⟨g, i, none⟩ x).setCell ⟨g, j, none⟩ y).setCell ⟨g, k, none⟩ z).heap.size = w.heap.size := by simp [World.setCell]
def numT : Nat → Tm
 | 0 => .mk 7 0 []
 | n + 1 => .mk 8 0 [numT n]
theorem numT_size : ∀ n, (numT n).size = n + 1
 | 0 => by rw [numT, Tm.size, sizes]
 | n + 1 => by rw [numT, Tm.size, sizes, sizes, numT_size n]; omega
end Go.Proofs.YtabbbnddfcbdiaaGreat
namespace Go.Proofs.YtabbbnddfcbdiaaGreat
open Go.RowKit
def Made (B : Nat) (t : Tm) (v : Value) (w : World) : Prop := ∃ s F, v = .agg #[.int .i64 t.kind, .int .i64 t.num, s] ∧ SlOwn w t.kids s F ∧ F.Nodup ∧ ∀ g ∈ F, B ≤ g ∧ g < w.heap.size
def VarAt (g : Nat) (k n : Int) (s : Value) (w : World) : Prop := w.heap[g]? = some (.cells #[.int .i64 k, .int .i64 n, s] 25 (0, 0))
theorem VarAt.facts {g : Nat} {k n : Int} {s : Value} {w : World} (h : VarAt g k n s w) : g < w.heap.size ∧ w.cell? ⟨g, 0, none⟩ = some (.int .i64 k) ∧ w.cell? ⟨g, 1, none⟩ = some (.int .i64 n) ∧ w.cell? ⟨g, 2, none⟩ = some s ∧ ∀ i, w.frozen? ⟨g, i, none⟩ = false := by
 obtain ⟨h1, h2, h3⟩ := block_of_cells h
 exact ⟨h1, h2 0, h2 1, h2 2, h3⟩
theorem VarAt.below {g : Nat} {k n : Int} {s : Value} {w w' : World} (h : VarAt g k n s w) (hb : Below w.heap.size w w') : VarAt g k n s w' := (hb.block g h.facts.1).trans h
theorem VarAt.far {g : Nat} {k n : Int} {s : Value} {w : World} (h : VarAt g k n s w) {p : Addr} (hp : g ≠ p.block) (u : Value) : VarAt g k n s (w.setCell p u) := (Below.heap_setCell w p u g hp).trans h
theorem VarAt.far3 {g : Nat} {k n : Int} {s : Value} {w : World} (h : VarAt g k n s w) {g' : Nat} (hp : g ≠ g') (a b c : Nat) (x y z : Value) : VarAt g k n s (((w.setCell ⟨g', a, none⟩ x).setCell ⟨g', b, none⟩ y).setCell ⟨g', c, none⟩ z) :=
 ((h.far (p := ⟨g', a, none⟩) hp _).far (p := ⟨g', b, none⟩) hp _).far (p := ⟨g', c, none⟩) hp _
theorem VarAt.set {g : Nat} {k n k' n' : Int} {s s' : Value} {w : World} (h : VarAt g k n s w) : VarAt g k' n' s' (((w.setCell ⟨g, 0, none⟩ (.int .i64 k')).setCell ⟨g, 1, none⟩ (.int .i64 n')).setCell ⟨g, 2, none⟩ s') := by
 have := block_set (block_set (block_set h 0 (.int .i64 k')) 1 (.int .i64 n')) 2 s'
 simpa [VarAt] using this
theorem VarAt.new (w : World) (k n : Int) (s : Value) : VarAt w.heap.size k n s (w.alloc (.cells #[.int .i64 k, .int .i64 n, s] 25)) := heap_new _ _
end Go.Proofs.YtabbbnddfcbdiaaGreat
namespace Go.Proofs.YtabbbnddfcbdiaaGreat
open Go.RowKit
theorem var_kids {n : Int} {l : List Tm} (h : RootOk 1 n l.length) : l = [] := by
 have := h.1
 simp [arity] at this
 exact List.length_eq_zero_iff.1 (by omega)
theorem var_range {n : Int} {m : Nat} (h : RootOk 1 n m) : 0 ≤ n ∧ n ≤ 20 := by
 have := h.2
 simp [mostN] at this
 omega
theorem var_ok (n : Int) : (Tm.mk 1 n []).allOk ↔ 0 ≤ n ∧ n ≤ 20 := by
 rw [Tm.allOk, allsOk]
 unfold RootOk
 simp [arity, mostN]
mutual
def Tm.shift (e : Int) : Tm → Int → Tm
 | .mk k n l, c => .mk k (if k = 1 ∧ c ≤ n then n + e else n) (shiftL e k l 0 c)
def shiftL (e : Int) : Int → List Tm → Nat → Int → List Tm
 | _, [], _, _ => []
 | k, t :: l, i, c => t.shift e (c + under k i) :: shiftL e k l (i + 1) c
end
theorem Tm.shift_eq (e : Int) (t : Tm) (c : Int) : t.shift e c = .mk t.kind (if t.kind = 1 ∧ c ≤ t.num then t.num + e else t.num) (shiftL e t.kind t.kids 0 c) := by cases t; rw [Tm.shift]; rfl
theorem shiftL_length (e : Int) : ∀ (k : Int) (l : List Tm) (i : Nat) (c : Int), (shiftL e k l i c).length = l.length
 | _, [], _, _ => by rw [shiftL]
 | k, t :: l, i, c => by rw [shiftL, List.length_cons, List.length_cons, shiftL_length]
mutual
def Tm.keeps (e : Int) : Tm → Int → Prop
 | .mk k n l, c => (k = 1 ∧ c ≤ n → c ≤ n + e) ∧ keepsL e k l 0 c
def keepsL (e : Int) : Int → List Tm → Nat → Int → Prop
 | _, [], _, _ => True
 | k, t :: l, i, c => t.keeps e (c + under k i) ∧ keepsL e k l (i + 1) c
end
mutual
theorem Tm.keeps_pos {e : Int} (he : 0 ≤ e) : ∀ (t : Tm) (c : Int), t.keeps e c
 | .mk k n l, c => by rw [Tm.keeps]; exact ⟨fun h => by omega, keepsL_pos he l k 0 c⟩
theorem keepsL_pos {e : Int} (he : 0 ≤ e) : ∀ (l : List Tm) (k : Int) (i : Nat) (c : Int), keepsL e k l i c
 | [], k, i, c => by rw [keepsL]; trivial
 | t :: l, k, i, c => by rw [keepsL]; exact ⟨Tm.keeps_pos he t _, keepsL_pos he l k _ c⟩
end
def varT (n : Int) : Tm := .mk 1 n []
def shiftTo (e c i b : Int) : Tm := varT (if i < c then i + b else i + e + b)
def shiftMay (e c i b : Int) : Prop := if i < c then 0 ≤ i + b ∧ i + b ≤ 20 else c ≤ i + e ∧ 0 ≤ i + e + b ∧ i + e + b ≤ 20
mutual
theorem Tm.repl_shift {e c : Int} (hc : 0 ≤ c) : ∀ (t : Tm) (b : Int), t.allOk → t.repl (shiftTo e c) b = t.shift e (c + b)
 | .mk k n l, b, h => by
  rw [Tm.allOk] at h
  rw [Tm.repl, Tm.shift]
  by_cases hk : k = 1 ∧ b ≤ n
  ·rw [if_pos hk]
   obtain ⟨rfl, hb⟩ := hk
   rw [var_kids h.1, shiftL]
   unfold shiftTo varT
   congr 1
   by_cases h1 : n - b < c
   ·rw [if_pos h1, if_neg (by omega)]; omega
   ·rw [if_neg h1, if_pos ⟨rfl, by omega⟩]; omega
  ·rw [if_neg hk, if_neg (fun h => hk ⟨h.1, by omega⟩), replL_shift hc l k 0 b h.2]
theorem replL_shift {e c : Int} (hc : 0 ≤ c) : ∀ (l : List Tm) (k : Int) (i : Nat) (b : Int), allsOk l → replL (shiftTo e c) k l i b = shiftL e k l i (c + b)
 | [], k, i, b, _ => by rw [replL, shiftL]
 | t :: l, k, i, b, h => by
  rw [allsOk] at h
  rw [replL, shiftL, Tm.repl_shift hc t _ h.1, replL_shift hc l k _ b h.2, Int.add_assoc]
end
mutual
theorem Tm.may_shift {e c : Int} (hc : 0 ≤ c) : ∀ (t : Tm) (b : Int), t.allOk → 0 ≤ b → (t.okAll (shiftMay e c) b ↔ (t.shift e (c + b)).allOk ∧ t.keeps e (c + b))
 | .mk k n l, b, h, hb => by
  rw [Tm.allOk] at h
  rw [Tm.okAll, Tm.shift, Tm.keeps]
  by_cases hk : k = 1 ∧ b ≤ n
  ·rw [if_pos hk]
   obtain ⟨rfl, hbn⟩ := hk
   rw [var_kids h.1, shiftL, keepsL]
   have hr := var_range h.1
   unfold shiftMay
   by_cases h1 : n - b < c
   ·rw [if_pos h1, if_neg (by omega), var_ok]
    constructor
    ·rintro ⟨a1, a2⟩
     exact ⟨⟨by omega, by omega⟩, fun h => by omega, trivial⟩
    ·rintro ⟨⟨a1, a2⟩, _⟩
     omega
   ·rw [if_neg h1, if_pos ⟨rfl, by omega⟩, var_ok]
    constructor
    ·rintro ⟨a1, a2, a3⟩
     exact ⟨⟨by omega, by omega⟩, fun h => by omega, trivial⟩
    ·rintro ⟨⟨a1, a2⟩, a3, _⟩
     have := a3 ⟨rfl, by omega⟩
     omega
  ·rw [if_neg hk, if_neg (fun h => hk ⟨h.1, by omega⟩), mayL_shift hc l k 0 b h.2 hb, Tm.allOk, shiftL_length]
   constructor
   ·rintro ⟨h1, h2⟩
    exact ⟨⟨h.1, h1⟩, fun h => absurd ⟨h.1, by omega⟩ hk, h2⟩
   ·rintro ⟨⟨_, h1⟩, _, h2⟩
    exact ⟨h1, h2⟩
theorem mayL_shift {e c : Int} (hc : 0 ≤ c) : ∀ (l : List Tm) (k : Int) (i : Nat) (b : Int), allsOk l → 0 ≤ b → (okL (shiftMay e c) k l i b ↔ allsOk (shiftL e k l i (c + b)) ∧ keepsL e k l i (c + b))
 | [], k, i, b, _, _ => by rw [okL, shiftL, keepsL, allsOk]; simp
 | t :: l, k, i, b, h, hb => by
  rw [allsOk] at h
  have hu := under_01 k i
  rw [okL, shiftL, keepsL, allsOk, Tm.may_shift hc t _ h.1 (by omega), mayL_shift hc l k _ b h.2 hb, Int.add_assoc]
  constructor
  ·rintro ⟨⟨h1, h2⟩, h3, h4⟩; exact ⟨⟨h1, h3⟩, h2, h4⟩
  ·rintro ⟨⟨h1, h3⟩, h2, h4⟩; exact ⟨⟨h1, h2⟩, h3, h4⟩
end
def insTo (B i b : Int) : Tm := varT (i + B + b)
def insMay (B i b : Int) : Prop := 0 ≤ i + B + b ∧ i + B + b ≤ 20
theorem insTo_eq (B i b : Int) (hi : 0 ≤ i) : insTo B i b = shiftTo B 0 i b := by
 unfold insTo shiftTo
 rw [if_neg (by omega)]
theorem insMay_iff (B i b : Int) (hi : 0 ≤ i) (hB : 0 ≤ B) : insMay B i b ↔ shiftMay B 0 i b := by
 unfold insMay shiftMay
 rw [if_neg (by omega)]
 omega
mutual
theorem Tm.repl_congr {ρ σ : Int → Int → Tm} (h : ∀ i b, 0 ≤ i → ρ i b = σ i b) : ∀ (t : Tm) (b : Int), t.repl ρ b = t.repl σ b
 | .mk k n l, b => by
  rw [Tm.repl, Tm.repl, replL_congr h l k 0 b]
  split
  ·exact h _ _ (by omega)
  ·rfl
theorem replL_congr {ρ σ : Int → Int → Tm} (h : ∀ i b, 0 ≤ i → ρ i b = σ i b) : ∀ (l : List Tm) (k : Int) (i : Nat) (b : Int), replL ρ k l i b = replL σ k l i b
 | [], k, i, b => by rw [replL, replL]
 | t :: l, k, i, b => by rw [replL, replL, Tm.repl_congr h t _, replL_congr h l k _ b]
end
mutual
theorem Tm.okAll_congr {p q : Int → Int → Prop} (h : ∀ i b, 0 ≤ i → (p i b ↔ q i b)) : ∀ (t : Tm) (b : Int), t.okAll p b ↔ t.okAll q b
 | .mk k n l, b => by
  rw [Tm.okAll, Tm.okAll, okL_congr h l k 0 b]
  split
  ·exact h _ _ (by omega)
  ·exact Iff.rfl
theorem okL_congr {p q : Int → Int → Prop} (h : ∀ i b, 0 ≤ i → (p i b ↔ q i b)) : ∀ (l : List Tm) (k : Int) (i : Nat) (b : Int), okL p k l i b ↔ okL q k l i b
 | [], k, i, b => by rw [okL, okL]
 | t :: l, k, i, b => by rw [okL, okL, Tm.okAll_congr h t _, okL_congr h l k _ b]
end
theorem Tm.repl_ins {t : Tm} (h : t.allOk) (B : Int) : t.repl (insTo B) 0 = t.shift B 0 := by
 rw [Tm.repl_congr (fun i b hi => insTo_eq B i b hi), Tm.repl_shift (Int.le_refl 0) t 0 h]
 rfl
theorem Tm.may_ins {t : Tm} (h : t.allOk) {B : Int} (hB : 0 ≤ B) : t.okAll (insMay B) 0 ↔ (t.shift B 0).allOk := by
 rw [Tm.okAll_congr (fun i b hi => insMay_iff B i b hi hB), Tm.may_shift (Int.le_refl 0) t 0 h (Int.le_refl 0)]
 exact ⟨fun h => h.1, fun h => ⟨h, Tm.keeps_pos hB _ _⟩⟩
mutual
def Tm.subst : Tm → Tm → Int → Int → Tm
 | .mk k n l, u, x, d => if k = 1 ∧ n = x then u.shift d 0 else .mk k (if k = 1 ∧ x < n then n - 1 else n) (substL u k l 0 x d)
def substL : Tm → Int → List Tm → Nat → Int → Int → List Tm
 | _, _, [], _, _, _ => []
 | u, k, t :: l, i, x, d => t.subst u (x + under k i) (d + under k i) :: substL u k l (i + 1) x d
end
theorem substL_length (u : Tm) : ∀ (k : Int) (l : List Tm) (i : Nat) (x d : Int), (substL u k l i x d).length = l.length
 | _, [], _, _, _ => by rw [substL]
 | k, t :: l, i, x, d => by rw [substL, List.length_cons, List.length_cons, substL_length]
def subTo (u : Tm) (x i b : Int) : Tm := if i < x then varT (i + b) else if x < i then varT (i - 1 + b) else u.repl (insTo b) 0
def subMay (u : Tm) (x i b : Int) : Prop := if i < x then 0 ≤ i + b ∧ i + b ≤ 20 else if x < i then 0 ≤ i - 1 + b ∧ i - 1 + b ≤ 20 else u.okAll (insMay b) 0
mutual
theorem Tm.repl_subst {u : Tm} (hu : u.allOk) {x : Int} (hx : 0 ≤ x) : ∀ (t : Tm) (b : Int), t.allOk → t.repl (subTo u x) b = t.subst u (x + b) b
 | .mk k n l, b, h => by
  rw [Tm.allOk] at h
  rw [Tm.repl, Tm.subst]
  by_cases hk : k = 1 ∧ b ≤ n
  ·rw [if_pos hk]
   obtain ⟨rfl, hb⟩ := hk
   rw [var_kids h.1, substL]
   unfold subTo varT
   by_cases h1 : n - b < x
   ·rw [if_pos h1, if_neg (by omega), if_neg (by omega)]
    congr 1
    omega
   ·rw [if_neg h1]
    by_cases h2 : x < n - b
    ·rw [if_pos h2, if_neg (by omega), if_pos ⟨rfl, by omega⟩]
     congr 1
     omega
    ·rw [if_neg h2, if_pos ⟨rfl, by omega⟩, Tm.repl_ins hu]
  ·rw [if_neg hk, if_neg (fun h => hk ⟨h.1, by omega⟩), if_neg (fun h => hk ⟨h.1, by omega⟩), replL_subst hu hx l k 0 b h.2]
theorem replL_subst {u : Tm} (hu : u.allOk) {x : Int} (hx : 0 ≤ x) : ∀ (l : List Tm) (k : Int) (i : Nat) (b : Int), allsOk l → replL (subTo u x) k l i b = substL u k l i (x + b) b
 | [], k, i, b, _ => by rw [replL, substL]
 | t :: l, k, i, b, h => by
  rw [allsOk] at h
  rw [replL, substL, Tm.repl_subst hu hx t _ h.1, replL_subst hu hx l k _ b h.2, Int.add_assoc]
end
mutual
theorem Tm.may_subst {u : Tm} (hu : u.allOk) {x : Int} (hx : 0 ≤ x) : ∀ (t : Tm) (b : Int), t.allOk → 0 ≤ b → (t.okAll (subMay u x) b ↔ (t.subst u (x + b) b).allOk)
 | .mk k n l, b, h, hb => by
  rw [Tm.allOk] at h
  rw [Tm.okAll, Tm.subst]
  by_cases hk : k = 1 ∧ b ≤ n
  ·rw [if_pos hk]
   obtain ⟨rfl, hbn⟩ := hk
   rw [var_kids h.1, substL]
   have hr := var_range h.1
   unfold subMay
   by_cases h1 : n - b < x
   ·rw [if_pos h1, if_neg (by omega), if_neg (by omega), var_ok]
    omega
   ·rw [if_neg h1]
    by_cases h2 : x < n - b
    ·rw [if_pos h2, if_neg (by omega), if_pos ⟨rfl, by omega⟩, var_ok]
     omega
    ·rw [if_neg h2, if_pos ⟨rfl, by omega⟩, Tm.may_ins hu hb]
  ·rw [if_neg hk, if_neg (fun h => hk ⟨h.1, by omega⟩), if_neg (fun h => hk ⟨h.1, by omega⟩), mayL_subst hu hx l k 0 b h.2 hb, Tm.allOk, substL_length]
   exact ⟨fun h1 => ⟨h.1, h1⟩, fun h1 => h1.2⟩
theorem mayL_subst {u : Tm} (hu : u.allOk) {x : Int} (hx : 0 ≤ x) : ∀ (l : List Tm) (k : Int) (i : Nat) (b : Int), allsOk l → 0 ≤ b → (okL (subMay u x) k l i b ↔ allsOk (substL u k l i (x + b) b))
 | [], k, i, b, _, _ => by rw [okL, substL, allsOk]
 | t :: l, k, i, b, h, hb => by
  rw [allsOk] at h
  have hu' := under_01 k i
  rw [okL, substL, allsOk, Tm.may_subst hu hx t _ h.1 (by omega), mayL_subst hu hx l k _ b h.2 hb, Int.add_assoc]
end
def SubstOk (t : Tm) (x : Int) (u : Tm) : Prop := t.Valid ∧ u.Valid ∧ 0 ≤ x ∧ x ≤ 20 ∧ (t.subst u x 0).Valid
def zeroT : Tm := .mk 0 0 []
noncomputable def orZero (p : Prop) (t : Tm) : Tm := @ite _ p (Classical.propDecidable p) t zeroT
theorem emit_subst {t u : Tm} {x : Int} (h : t.Valid) (hu : u.Valid) (h3 : 0 ≤ x) (h4 : x ≤ 20) :
  t.trav (copyStep (subMay u x) (subTo u x)) 0 1 [] = @ite _ (SubstOk t x u) (Classical.propDecidable _) (some (t.subst u x 0).flat) none := by
 rw [Tm.trav_copy _ _ t 0 1 [] h.1 (by simp), Tm.repl_subst hu.1 h3 t 0 h.1, Int.add_zero]
 have hm := Tm.may_subst hu.1 h3 t 0 h.1 (Int.le_refl 0)
 rw [Int.add_zero] at hm
 unfold emit
 by_cases ho : SubstOk t x u
 ·rw [if_pos ho, if_pos ⟨hm.2 ho.2.2.2.2.1, by have := ho.2.2.2.2.2.2; simpa using this, by have := ho.2.2.2.2.2.1; omega⟩, List.nil_append]
 ·rw [if_neg ho, if_neg]
  rintro ⟨a, b, d⟩
  exact ho ⟨h, hu, h3, h4, hm.1 a, by omega, by simpa using b⟩
end Go.Proofs.YtabbbnddfcbdiaaGreat
namespace Go.Proofs.YtabbbnddfcbdiaaGreat
open Go.RowKit
set_option maxRecDepth 100000 in
theorem binds_any (k : Int) (i : Nat) (w : World) : Calls Tryz.prog 142 #[.int .i64 k, .int .i64 i] w fun e w' => e = .returned (.bool (decide (under k i = 1))) ∧ w = w' := by
 by_cases h1 : i = 1
 ·subst h1
  by_cases h : k = 3
  ·subst h
   go_enter Tryz.func142, Tryz.ntmps142
   go_wp2
   go_ret
   exact ⟨rfl, rfl⟩
  ·by_cases h' : k = 4
   ·subst h'
    go_enter Tryz.func142, Tryz.ntmps142
    go_wp2
    go_ret
    exact ⟨rfl, rfl⟩
   ·have g1 : (k == 3) = false := by simpa using h
    have g2 : (k == 4) = false := by simpa using h'
    have HU : Hid (decide (under k 1 = 1) = (k == 13)) := by
     show _ = _
     unfold under
     rw [Bool.eq_iff_iff]
     simp [h, h']
    rw [HU.out]
    clear h h'
    go_enter Tryz.func142, Tryz.ntmps142
    go_wp2
    go_ret
    exact ⟨rfl, rfl⟩
 ·have g0 : ((i : Int) == 1) = false := by simp; omega
  rw [show decide (under k i = 1) = false by unfold under; simp [h1]]
  clear h1
  go_enter Tryz.func142, Tryz.ntmps142
  go_wp2
  go_ret
  exact ⟨rfl, rfl⟩
theorem under_any (k : Int) (i : Nat) (w : World) : Calls Tryz.prog 127 #[.int .i64 k, .int .i64 i] w fun e w' => e = .returned (.int .i64 (under k i)) ∧ w = w' := by
 have HB := tuck (binds_any k i)
 have hu := under_01 k i
 by_cases h : under k i = 1
 ·rw [show decide (under k i = 1) = true by simpa using h] at HB
  rw [h]
  clear h hu
  go_enter Tryz.func127, Tryz.ntmps127
  go_wp2_with (go_at_call 142; refine (HB.out _).mono ?_; rintro e w' ⟨rfl, rfl⟩)
  go_ret
  exact ⟨rfl, rfl⟩
 ·rw [show decide (under k i = 1) = false by simpa using h] at HB
  rw [show under k i = 0 by omega]
  clear h hu
  go_enter Tryz.func127, Tryz.ntmps127
  go_wp2_with (go_at_call 142; refine (HB.out _).mono ?_; rintro e w' ⟨rfl, rfl⟩)
  go_ret
  exact ⟨rfl, rfl⟩
theorem mem_hgts' {l : List Tm} {i : Nat} (h : i < l.length) : l[i].hgt ≤ hgts l := (hgts_le l (hgts l)).1 (Nat.le_refl _) _ (List.getElem_mem h)
theorem valid_bounds {t : Tm} (h : t.Valid) : sizes t.kids ≤ 399 ∧ hgts t.kids ≤ 29 := by
 have h1 := h.2.1
 have h2 := h.2.2
 rw [Tm.hgt_eq] at h1
 rw [Tm.size_eq] at h2
 omega
theorem root_num' {t : Tm} (h : t.rootOk) : t.num ≤ 20 := by
 have h1 := h.2
 unfold mostN at h1
 split at h1
 ·omega
 ·split at h1 <;> omega
end Go.Proofs.YtabbbnddfcbdiaaGreat
