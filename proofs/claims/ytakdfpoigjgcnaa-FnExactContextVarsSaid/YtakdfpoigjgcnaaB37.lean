/-
  TeleE.
-/
import Derived.Test.YtakdfpoigjgcnaaB21
import Derived.Test.YtakdfpoigjgcnaaB26
namespace Go.Proofs.Ytakdfpoigjgcnaa
open Go.RowKit
noncomputable def orNil (P : Prop) (l : List Tm) : List Tm := @ite _ P (Classical.propDecidable P) l []
def LtPost (w : World) (P : Prop) (l : List Tm) (T : Tm) (e : Ending) (w' : World) : Prop := Below w.heap.size w w' ∧ ∃ (a0 : Option Addr) (c0 : Nat) (a1 : Option Addr) (c1 : Nat) (F0 F1 : List Nat), e = .returned (.tuple #[.slice a0 (orNil P l).length c0, .agg #[.int .i64 (orZero P T).kind, .int .i64 (orZero P T).num, .slice a1 (orZero P T).kids.length c1], .bool (tr P)]) ∧ SlOwn w' (orNil P l) (.slice a0 (orNil P l).length c0) F0 ∧ SlOwn w' (orZero P T).kids (.slice a1 (orZero P T).kids.length c1) F1 ∧ (F0 ++ F1).Nodup ∧ ∀ g ∈ F0 ++ F1, w.heap.size ≤ g ∧ g < w'.heap.size
theorem LtPost.no {w w' : World} {P : Prop} {l : List Tm} {T : Tm} (hP : ¬ P) (hb : Below w.heap.size w w') : LtPost w P l T (.returned (.tuple #[.slice none 0 0, .agg #[.int .i64 0, .int .i64 0, .slice none 0 0], .bool false])) w' := by
 have h0 : orNil P l = [] := by unfold orNil; rw [if_neg hP]
 have h1 : orZero P T = zeroT := by unfold orZero; rw [if_neg hP]
 refine ⟨hb, none, 0, none, 0, [], [], ?_, ?_, ?_, List.nodup_nil, fun g h => by cases h⟩
 ·rw [h0, h1, tr_not hP]; rfl
 ·first | (rw [h0]; exact SlOwn.nil _ _ _) | (rw [h1]; exact SlOwn.nil _ _ _)
 ·first | (rw [h1]; exact SlOwn.nil _ _ _) | (rw [h0]; exact SlOwn.nil _ _ _)
theorem LtPost.yes {w w' : World} {P : Prop} {l : List Tm} {T : Tm} {a b : Option Addr} {c d : Nat} {F G : List Nat} (hP : P) (hb : Below w.heap.size w w') (hl : SlOwn w' l (.slice a l.length c) F) (hT : SlOwn w' T.kids (.slice b T.kids.length d) G) (hF : F.Nodup) (hG : G.Nodup) (hd : ∀ g ∈ F, g ∉ G) (h1 : ∀ g ∈ F, w.heap.size ≤ g ∧ g < w'.heap.size) (h2 : ∀ g ∈ G, w.heap.size ≤ g ∧ g < w'.heap.size) :
  LtPost w P l T (.returned (.tuple #[.slice a l.length c, .agg #[.int .i64 T.kind, .int .i64 T.num, .slice b T.kids.length d], .bool true])) w' := by
 have e0 : orNil P l = l := by unfold orNil; rw [if_pos hP]
 have e1 : orZero P T = T := by unfold orZero; rw [if_pos hP]
 refine ⟨hb, a, c, b, d, F, G, ?_, ?_, ?_, ?_, ?_⟩
 ·rw [e0, e1, tr_of hP]
 ·rw [e0]; exact hl
 ·rw [e1]; exact hT
 ·exact List.nodup_append.2 ⟨hF, hG, fun x hx y hy e => hd x hx (e ▸ hy)⟩
 ·intro g hg
  rcases List.mem_append.1 hg with hg | hg
  ·exact h1 g hg
  ·exact h2 g hg
def LtPostS (w : World) (P : Prop) (l : List Tm) (T : Tm) (e : Ending) (w' : World) : Prop := Below w.heap.size w w' ∧ ∃ (a0 : Option Addr) (c0 : Nat) (a1 : Option Addr) (c1 : Nat), e = .returned (.tuple #[.slice a0 (orNil P l).length c0, .agg #[.int .i64 (orZero P T).kind, .int .i64 (orZero P T).num, .slice a1 (orZero P T).kids.length c1], .bool (tr P)]) ∧ SlIn w' w.heap.size (orNil P l) (.slice a0 (orNil P l).length c0) ∧ SlIn w' w.heap.size (orZero P T).kids (.slice a1 (orZero P T).kids.length c1)
theorem LtPostS.no {w w' : World} {P : Prop} {l : List Tm} {T : Tm} {x : Option Addr} {y : Nat} (hP : ¬ P) (hb : Below w.heap.size w w') : LtPostS w P l T (.returned (.tuple #[.slice x 0 y, .agg #[.int .i64 0, .int .i64 0, .slice none 0 0], .bool false])) w' := by
 have h0 : orNil P l = [] := by unfold orNil; rw [if_neg hP]
 have h1 : orZero P T = zeroT := by unfold orZero; rw [if_neg hP]
 refine ⟨hb, x, y, none, 0, ?_, ?_, ?_⟩
 ·rw [h0, h1, tr_not hP]; rfl
 ·rw [h0]; exact SlIn.nil _ _ _ _
 ·rw [h1]; exact SlIn.nil _ _ _ _
theorem LtPostS.yes {w w' : World} {P : Prop} {l : List Tm} {T : Tm} {a b : Option Addr} {c d : Nat} (hP : P) (hb : Below w.heap.size w w') (hl : SlIn w' w.heap.size l (.slice a l.length c)) (hT : SlIn w' w.heap.size T.kids (.slice b T.kids.length d)) :
  LtPostS w P l T (.returned (.tuple #[.slice a l.length c, .agg #[.int .i64 T.kind, .int .i64 T.num, .slice b T.kids.length d], .bool true])) w' := by
 have e0 : orNil P l = l := by unfold orNil; rw [if_pos hP]
 have e1 : orZero P T = T := by unfold orZero; rw [if_pos hP]
 refine ⟨hb, a, c, b, d, ?_, ?_, ?_⟩
 ·rw [e0, e1, tr_of hP]
 ·rw [e0]; exact hl
 ·rw [e1]; exact hT
def TlPost2 (w : World) (P : Prop) (l : List Tm) (T : Tm) (e : Ending) (w' : World) : Prop := Below w.heap.size w w' ∧ ∃ (a1 : Option Addr) (c1 : Nat) (a0 : Option Addr) (c0 : Nat) (F1 F0 : List Nat), e = .returned (.tuple #[.agg #[.int .i64 (orZero P T).kind, .int .i64 (orZero P T).num, .slice a1 (orZero P T).kids.length c1], .slice a0 (orNil P l).length c0, .bool (tr P)]) ∧ SlOwn w' (orZero P T).kids (.slice a1 (orZero P T).kids.length c1) F1 ∧ SlOwn w' (orNil P l) (.slice a0 (orNil P l).length c0) F0 ∧ (F1 ++ F0).Nodup ∧ ∀ g ∈ F1 ++ F0, w.heap.size ≤ g ∧ g < w'.heap.size
theorem TlPost2.no {w w' : World} {P : Prop} {l : List Tm} {T : Tm} (hP : ¬ P) (hb : Below w.heap.size w w') : TlPost2 w P l T (.returned (.tuple #[.agg #[.int .i64 0, .int .i64 0, .slice none 0 0], .slice none 0 0, .bool false])) w' := by
 have h0 : orNil P l = [] := by unfold orNil; rw [if_neg hP]
 have h1 : orZero P T = zeroT := by unfold orZero; rw [if_neg hP]
 refine ⟨hb, none, 0, none, 0, [], [], ?_, ?_, ?_, List.nodup_nil, fun g h => by cases h⟩
 ·rw [h0, h1, tr_not hP]; rfl
 ·first | (rw [h0]; exact SlOwn.nil _ _ _) | (rw [h1]; exact SlOwn.nil _ _ _)
 ·first | (rw [h1]; exact SlOwn.nil _ _ _) | (rw [h0]; exact SlOwn.nil _ _ _)
theorem TlPost2.yes {w w' : World} {P : Prop} {l : List Tm} {T : Tm} {a b : Option Addr} {c d : Nat} {F G : List Nat} (hP : P) (hb : Below w.heap.size w w') (hl : SlOwn w' l (.slice a l.length c) F) (hT : SlOwn w' T.kids (.slice b T.kids.length d) G) (hF : F.Nodup) (hG : G.Nodup) (hd : ∀ g ∈ F, g ∉ G) (h1 : ∀ g ∈ F, w.heap.size ≤ g ∧ g < w'.heap.size) (h2 : ∀ g ∈ G, w.heap.size ≤ g ∧ g < w'.heap.size) :
  TlPost2 w P l T (.returned (.tuple #[.agg #[.int .i64 T.kind, .int .i64 T.num, .slice b T.kids.length d], .slice a l.length c, .bool true])) w' := by
 have e0 : orNil P l = l := by unfold orNil; rw [if_pos hP]
 have e1 : orZero P T = T := by unfold orZero; rw [if_pos hP]
 refine ⟨hb, b, d, a, c, G, F, ?_, ?_, ?_, ?_, ?_⟩
 ·rw [e0, e1, tr_of hP]
 ·rw [e1]; exact hT
 ·rw [e0]; exact hl
 ·exact List.nodup_append.2 ⟨hG, hF, fun x hx y hy e => hd y hy (e ▸ hx)⟩
 ·intro g hg
  rcases List.mem_append.1 hg with hg | hg
  ·exact h2 g hg
  ·exact h1 g hg
def TlPost2S (w : World) (P : Prop) (l : List Tm) (T : Tm) (e : Ending) (w' : World) : Prop := Below w.heap.size w w' ∧ ∃ (a1 : Option Addr) (c1 : Nat) (a0 : Option Addr) (c0 : Nat), e = .returned (.tuple #[.agg #[.int .i64 (orZero P T).kind, .int .i64 (orZero P T).num, .slice a1 (orZero P T).kids.length c1], .slice a0 (orNil P l).length c0, .bool (tr P)]) ∧ SlIn w' w.heap.size (orZero P T).kids (.slice a1 (orZero P T).kids.length c1) ∧ SlIn w' w.heap.size (orNil P l) (.slice a0 (orNil P l).length c0)
theorem TlPost2S.no {w w' : World} {P : Prop} {l : List Tm} {T : Tm} {x : Option Addr} {y : Nat} (hP : ¬ P) (hb : Below w.heap.size w w') : TlPost2S w P l T (.returned (.tuple #[.agg #[.int .i64 0, .int .i64 0, .slice none 0 0], .slice x 0 y, .bool false])) w' := by
 have h0 : orNil P l = [] := by unfold orNil; rw [if_neg hP]
 have h1 : orZero P T = zeroT := by unfold orZero; rw [if_neg hP]
 refine ⟨hb, none, 0, x, y, ?_, ?_, ?_⟩
 ·rw [h0, h1, tr_not hP]; rfl
 ·rw [h1]; exact SlIn.nil _ _ _ _
 ·rw [h0]; exact SlIn.nil _ _ _ _
theorem TlPost2S.yes {w w' : World} {P : Prop} {l : List Tm} {T : Tm} {a b : Option Addr} {c d : Nat} (hP : P) (hb : Below w.heap.size w w') (hl : SlIn w' w.heap.size l (.slice a l.length c)) (hT : SlIn w' w.heap.size T.kids (.slice b T.kids.length d)) :
  TlPost2S w P l T (.returned (.tuple #[.agg #[.int .i64 T.kind, .int .i64 T.num, .slice b T.kids.length d], .slice a l.length c, .bool true])) w' := by
 have e0 : orNil P l = l := by unfold orNil; rw [if_pos hP]
 have e1 : orZero P T = T := by unfold orZero; rw [if_pos hP]
 refine ⟨hb, b, d, a, c, ?_, ?_, ?_⟩
 ·rw [e0, e1, tr_of hP]
 ·rw [e1]; exact hT
 ·rw [e0]; exact hl
def SplitOk (t : Tm) (n : Int) : Prop := 0 ≤ n ∧ n ≤ 8 ∧ t.Valid ∧ n ≤ (runs 3 1 30 t : Int)
theorem sides_sizes {k : Int} {o p j : Nat} {t : Tm} (hk : arity k = 2) (ho : o < 2) (hp : p < 2) (hv : t.Valid) (ha : ∀ i, i < j → (down o i t).kind = k) : ∀ x ∈ sides o p j t, sizes x.kids ≤ 1000000 := fun x hx => by
 have := (valid_bounds (sides_valid hk ho hp j t hv ha x hx)).1
 omega
theorem sizes_le {n : Nat} : ∀ {l : List Tm}, (∀ x ∈ l, x.Valid) → l.length ≤ n → sizes l ≤ 400 * n
 | [], _, _ => by simp [sizes]
 | t :: l, h, hl => by
  have h1 := (h t (List.mem_cons_self ..)).2.2
  obtain ⟨m, rfl⟩ : ∃ m, n = m + 1 := ⟨n - 1, by simp at hl; omega⟩
  have h2 := sizes_le (n := m) (l := l) (fun x hx => h x (List.mem_cons_of_mem _ hx)) (by simpa using hl)
  rw [sizes]
  omega
theorem orNil_sizes {P : Prop} {l : List Tm} (h : P → sizes l ≤ 1000000) : sizes (orNil P l) ≤ 1000000 := by
 unfold orNil
 split
 ·rename_i hp; exact h hp
 ·simp [sizes]
end Go.Proofs.Ytakdfpoigjgcnaa
