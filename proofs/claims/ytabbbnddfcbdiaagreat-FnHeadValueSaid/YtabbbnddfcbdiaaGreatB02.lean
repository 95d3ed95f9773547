/-
  Model, Open, Own, Bind.
-/
import Derived.Test.YtabbbnddfcbdiaaGreatB01
import Derived.Carry
import Derived.Deep.Slices
import Derived.Deep.Strs
import Derived.OpenShut
import Derived.ProofKit
import Derived.RowKit
import Derived.Test.YtabbbnddfcbdiaaGreatRows
namespace Go.Proofs.YtabbbnddfcbdiaaGreat
open Go.ChangeShapes Go.WideShapes Go.ChangeAt Go.RowKit Go.Deep
theorem own : ownKnob Tryz.prog.godebug = none := by kernel_rfl
section
variable {H : Type} {enc : TypeId × Value → H} {W : World}
set_option maxRecDepth 100000 in
theorem stays_all (hl : laidOutB Tryz.prog = true) {W' : World} {sp : Nat → Bool} (hb : Below W.heap.size W W') : ∀ (ts : List TypeId) (vs : List Value) (ds : List (DataW H)) (ps : List MemPlace), (∀ t ∈ ts, Tryz.prog.readableRec t = true ∧ t < Tryz.prog.types.size) →
  DataW.TrodAll enc Tryz.prog W 0 (fun _ => true) true ts vs ds ps → (∀ p ∈ ps, p.block < W.heap.size) → (∀ p ∈ ps, sp p.block = true) → DataW.TrodAll enc Tryz.prog W' 0 sp true ts vs ds ps
 | [], [], [], _, _, h, _, _ => h
 | t :: ts, v :: vs, d :: ds, ps, hr, ⟨p, q, h0, h1, e⟩, hlt, hsp => by
  subst e
  refine ⟨p, q, WideElems.Trod_stays hl (hr t (by simp)).1 (hr t (by simp)).2 h0 (fun x hx => hb.same (hlt x (by simp [hx]))) (fun x hx => hsp x (by simp [hx])), ?_, rfl⟩
  exact stays_all hl hb ts vs ds q (fun t ht => hr t (by simp [ht])) h1 (fun x hx => hlt x (by simp [hx])) (fun x hx => hsp x (by simp [hx]))
set_option maxRecDepth 100000 in
theorem law_post {f : Func} {s : ChangeSpec} {W' : World} {args : Array Value} {ds gs : List (DataW H)} {before : List MemPlace} (hf : f.resultTypes = #[4]) (hv : s.vars = [])
  (hs : ∀ gs, gs = [] → s.fn H (ds ++ gs) = { results := [.lit (.bool true)], args := ds }) (hr : ∀ t ∈ f.params.toList, Tryz.prog.readableRec t = true ∧ t < Tryz.prog.types.size)
  (hl : laidOutB Tryz.prog = true) (hW : DataW.Whole enc Tryz.prog f.params.toList s.vars false W args.toList ds gs before) (hb : Below W.heap.size W W') : s.post enc Tryz.prog f false true false false W args (.bool true) W' := by
 have hW0 := hW
 obtain ⟨p, q, hA, hV, rfl, _, _⟩ := hW
 have hlt := fun x hx => hW0.lt x hx
 have hg : gs = [] ∧ q = [] := by
  rw [hv] at hV
  cases gs with
  | nil => exact ⟨rfl, hV⟩
  | cons g gs => exact absurd hV (by simp [DataW.TrodVars])
 obtain ⟨rfl, rfl⟩ := hg
 refine ⟨ds, [], p ++ [], [], p, [], hW0, ?_, ?_, ?_, hb.frame _, fun h => by cases h⟩
 ·rw [hs [] rfl, hf]
  exact ⟨[], [], shut_bool Tryz.underlying4 _, rfl, rfl⟩
 ·rw [hs [] rfl]
  exact stays_all hl hb _ _ _ _ hr hA (fun x hx => hlt x (by simp [hx])) (fun x hx => by simpa using hlt x (by simp [hx]))
 ·rw [hv, hs [] rfl]
  rfl
end
end Go.Proofs.YtabbbnddfcbdiaaGreat
namespace Go.Proofs.YtabbbnddfcbdiaaGreat
open Go.ChangeShapes Go.WideShapes Go.ChangeAt Go.RowKit Go.Deep
instance : Inhabited Tm := ⟨.mk 0 0 []⟩
section
variable {H : Type} {enc : TypeId × Value → H} {W : World}
end
end Go.Proofs.YtabbbnddfcbdiaaGreat
namespace Go.Proofs.YtabbbnddfcbdiaaGreat
def arity (k : Int) : Int :=
 if k = 1 ∨ k = 2 ∨ k = 6 ∨ k = 7 then 0 else if k = 8 ∨ k = 11 ∨ k = 15 ∨ k = 16 then 1 else if k = 3 ∨ k = 4 ∨ k = 5 ∨ k = 13 then 2 else
 if k = 10 ∨ k = 12 ∨ k = 14 then 3 else if k = 9 then 4 else -1
def mostN (k : Int) : Int := if k = 1 then 20 else if k = 2 then 3 else 0
noncomputable def tr (p : Prop) : Bool := @decide p (Classical.propDecidable p)
theorem tr_iff {p : Prop} : tr p = true ↔ p := by simp [tr]
theorem tr_false {p : Prop} : tr p = false ↔ ¬ p := by simp [tr]
theorem tr_of {p : Prop} (h : p) : tr p = true := tr_iff.2 h
theorem tr_not {p : Prop} (h : ¬ p) : tr p = false := tr_false.2 h
def RootOk (k n : Int) (len : Nat) : Prop := arity k = len ∧ 0 ≤ n ∧ n ≤ mostN k
def Tm.rootOk (t : Tm) : Prop := RootOk t.kind t.num t.kids.length
mutual
def Tm.allOk : Tm → Prop | .mk k n l => RootOk k n l.length ∧ allsOk l
def allsOk : List Tm → Prop
 | [] => True
 | t :: l => t.allOk ∧ allsOk l
end
mutual
def Tm.hgt : Tm → Nat | .mk _ _ l => 1 + hgts l
def hgts : List Tm → Nat
 | [] => 0
 | t :: l => max t.hgt (hgts l)
end
theorem Tm.allOk_iff (t : Tm) : t.allOk ↔ t.rootOk ∧ allsOk t.kids := by cases t; rw [Tm.allOk]; rfl
theorem Tm.hgt_eq (t : Tm) : t.hgt = 1 + hgts t.kids := by cases t; rw [Tm.hgt]; rfl
theorem allsOk_iff : ∀ l : List Tm, allsOk l ↔ ∀ t ∈ l, t.allOk
 | [] => by simp [allsOk]
 | t :: l => by rw [allsOk, allsOk_iff l]; simp
theorem hgts_le : ∀ (l : List Tm) (d : Nat), hgts l ≤ d ↔ ∀ t ∈ l, t.hgt ≤ d
 | [], d => by simp [hgts]
 | t :: l, d => by
  rw [hgts, Nat.max_le, hgts_le l d]; simp
theorem hgts_append : ∀ a b : List Tm, hgts (a ++ b) = max (hgts a) (hgts b)
 | [], b => by rw [List.nil_append, hgts]; omega
 | t :: a, b => by rw [List.cons_append, hgts, hgts, hgts_append a b]; omega
theorem hgts_take_succ (l : List Tm) (i : Nat) (h : i < l.length) : hgts (l.take (i + 1)) = max (hgts (l.take i)) l[i].hgt := by
 rw [List.take_succ_eq_append_getElem h, hgts_append, hgts, hgts]; omega
def Sh (t : Tm) (d : Int) : Prop := t.allOk ∧ (t.hgt : Int) ≤ d
theorem Sh_iff {t : Tm} {d : Int} : Sh t d ↔ 1 ≤ d ∧ t.rootOk ∧ ∀ (i : Nat) (h : i < t.kids.length), Sh t.kids[i] (d - 1) := by
 unfold Sh
 rw [t.allOk_iff, t.hgt_eq, allsOk_iff]
 constructor
 ·rintro ⟨⟨h1, h2⟩, h3⟩
  refine ⟨by omega, h1, fun i h => ⟨h2 _ (List.getElem_mem h), ?_⟩⟩
  have := (hgts_le t.kids (hgts t.kids)).1 (Nat.le_refl _) _ (List.getElem_mem h)
  omega
 ·rintro ⟨h1, h2, h3⟩
  refine ⟨⟨h2, fun u hu => ?_⟩, ?_⟩
  ·obtain ⟨i, hi, rfl⟩ := List.getElem_of_mem hu
   exact (h3 i hi).1
  ·have : hgts t.kids ≤ (d - 1).toNat := (hgts_le _ _).2 fun u hu => by
    obtain ⟨i, hi, rfl⟩ := List.getElem_of_mem hu
    have := (h3 i hi).2
    omega
   omega
def Tm.Valid (t : Tm) : Prop := t.allOk ∧ t.hgt ≤ 30 ∧ t.size ≤ 400
end Go.Proofs.YtabbbnddfcbdiaaGreat
namespace Go.Proofs.YtabbbnddfcbdiaaGreat
open Go.RowKit
mutual
def TmOwn (w : World) : Tm → Nat → Nat → List Nat → Prop
 | .mk k n l, b, o, F => ∃ (a : Option Addr) (cap b' : Nat) (F' : List Nat), w.cell? ⟨b, o, none⟩ = some (.int .i64 k) ∧ w.cell? ⟨b, o + 1, none⟩ = some (.int .i64 n) ∧ w.cell? ⟨b, o + 2, none⟩ = some (.slice a l.length cap) ∧
   l.length ≤ maxLen ∧ (l = [] ∧ F = [] ∨ a = some ⟨b', 0, none⟩ ∧ F = b' :: F' ∧ (∀ i, w.frozen? ⟨b', i, none⟩ = false)) ∧ (l ≠ [] → RowOwn w l b' 0 F')
def RowOwn (w : World) : List Tm → Nat → Nat → List Nat → Prop
 | [], _, _, F => F = []
 | t :: l, b, o, F => ∃ F1 F2, F = F1 ++ F2 ∧ TmOwn w t b o F1 ∧ RowOwn w l b (o + 3) F2
end
def SlOwn (w : World) (l : List Tm) (v : Value) (F : List Nat) : Prop :=
 ∃ (a : Option Addr) (cap b' : Nat) (F' : List Nat), v = .slice a l.length cap ∧ l.length ≤ maxLen ∧ (l = [] ∧ F = [] ∨ a = some ⟨b', 0, none⟩ ∧ F = b' :: F' ∧ (∀ i, w.frozen? ⟨b', i, none⟩ = false)) ∧ (l ≠ [] → RowOwn w l b' 0 F')
theorem TmOwn_iff {w : World} {t : Tm} {b o : Nat} {F : List Nat} : TmOwn w t b o F ↔
  ∃ s, w.cell? ⟨b, o, none⟩ = some (.int .i64 t.kind) ∧ w.cell? ⟨b, o + 1, none⟩ = some (.int .i64 t.num) ∧ w.cell? ⟨b, o + 2, none⟩ = some s ∧ SlOwn w t.kids s F := by
 cases t with
 | mk k n l =>
  simp only [TmOwn, Tm.kind, Tm.num, Tm.kids, SlOwn]
  constructor
  ·rintro ⟨a, cap, b', F', h1, h2, h3, h4, h5, h6⟩
   exact ⟨_, h1, h2, h3, a, cap, b', F', rfl, h4, h5, h6⟩
  ·rintro ⟨s, h1, h2, h3, a, cap, b', F', rfl, h4, h5, h6⟩
   exact ⟨a, cap, b', F', h1, h2, h3, h4, h5, h6⟩
theorem RowOwn_append {w : World} : ∀ {l m : List Tm} {b o : Nat} {F : List Nat}, RowOwn w (l ++ m) b o F ↔ ∃ F1 F2, F = F1 ++ F2 ∧ RowOwn w l b o F1 ∧ RowOwn w m b (o + l.length * 3) F2
 | [], m, b, o, F => by
  constructor
  ·intro h; exact ⟨[], F, rfl, by rw [RowOwn], by simpa using h⟩
  ·rintro ⟨F1, F2, rfl, h1, h2⟩
   rw [RowOwn] at h1
   subst h1
   simpa using h2
 | t :: l, m, b, o, F => by
  rw [List.cons_append, RowOwn]
  constructor
  ·rintro ⟨F1, F2, rfl, h1, h2⟩
   obtain ⟨G1, G2, rfl, h3, h4⟩ := RowOwn_append.1 h2
   exact ⟨F1 ++ G1, G2, by simp, by rw [RowOwn]; exact ⟨F1, G1, rfl, h1, h3⟩, by rw [List.length_cons, show o + (l.length + 1) * 3 = o + 3 + l.length * 3 by omega]; exact h4⟩
  ·rintro ⟨F1, F2, rfl, h1, h2⟩
   rw [RowOwn] at h1
   obtain ⟨G1, G2, rfl, h3, h4⟩ := h1
   refine ⟨G1, G2 ++ F2, by simp, h3, RowOwn_append.2 ⟨G2, F2, rfl, h4, ?_⟩⟩
   rw [List.length_cons, show o + (l.length + 1) * 3 = o + 3 + l.length * 3 by omega] at h2
   exact h2
def SameAt (w w' : World) (g : Nat) : Prop := ∀ i, w'.cell? ⟨g, i, none⟩ = w.cell? ⟨g, i, none⟩ ∧ w'.frozen? ⟨g, i, none⟩ = w.frozen? ⟨g, i, none⟩
theorem SameAt.of_block {w w' : World} {g : Nat} (h : w'.heap[g]? = w.heap[g]?) : SameAt w w' g := fun _ => ⟨World.cell?_of_block (w := w) h, World.frozen?_of_block (w := w) h⟩
mutual
theorem TmOwn.keep {w w' : World} : ∀ {t : Tm} {b o : Nat} {F : List Nat}, TmOwn w t b o F → (∀ i, i < 3 → w'.cell? ⟨b, o + i, none⟩ = w.cell? ⟨b, o + i, none⟩) → (∀ g ∈ F, SameAt w w' g) → TmOwn w' t b o F
 | .mk k n l, b, o, F, h, hc, hF => by
  rw [TmOwn] at h ⊢
  obtain ⟨a, cap, b', F', h1, h2, h3, h4, h5, h6⟩ := h
  refine ⟨a, cap, b', F', (hc 0 (by omega)).trans h1, (hc 1 (by omega)).trans h2, (hc 2 (by omega)).trans h3, h4, ?_, fun hn => ?_⟩
  ·rcases h5 with h5 | ⟨e1, e2, e3⟩
   ·exact Or.inl h5
   ·exact Or.inr ⟨e1, e2, fun i => ((hF b' (by rw [e2]; simp)) i).2.trans (e3 i)⟩
  ·rcases h5 with h5 | ⟨e1, e2, e3⟩
   ·exact absurd h5.1 hn
   ·exact RowOwn.keep (h6 hn) (fun i _ => ((hF b' (by rw [e2]; simp)) _).1) (fun g hg => hF g (by rw [e2]; simp [hg]))
theorem RowOwn.keep {w w' : World} : ∀ {l : List Tm} {b o : Nat} {F : List Nat}, RowOwn w l b o F → (∀ i, i < l.length * 3 → w'.cell? ⟨b, o + i, none⟩ = w.cell? ⟨b, o + i, none⟩) → (∀ g ∈ F, SameAt w w' g) → RowOwn w' l b o F
 | [], _, _, _, h, _, _ => by rw [RowOwn] at h ⊢; exact h
 | t :: l, b, o, F, h, hc, hF => by
  rw [RowOwn] at h ⊢
  obtain ⟨F1, F2, rfl, h1, h2⟩ := h
  refine ⟨F1, F2, rfl, TmOwn.keep h1 (fun i hi => hc i (by simp; omega)) (fun g hg => hF g (by simp [hg])), RowOwn.keep h2 (fun i hi => ?_) (fun g hg => hF g (by simp [hg]))⟩
  have := hc (3 + i) (by simp; omega)
  rwa [← Nat.add_assoc] at this
end
theorem SlOwn.keep {w w' : World} {l : List Tm} {v : Value} {F : List Nat} (h : SlOwn w l v F) (hF : ∀ g ∈ F, SameAt w w' g) : SlOwn w' l v F := by
 obtain ⟨a, cap, b', F', rfl, h4, h5, h6⟩ := h
 refine ⟨a, cap, b', F', rfl, h4, ?_, fun hn => ?_⟩
 ·rcases h5 with h5 | ⟨e1, e2, e3⟩
  ·exact Or.inl h5
  ·exact Or.inr ⟨e1, e2, fun i => ((hF b' (by rw [e2]; simp)) i).2.trans (e3 i)⟩
 ·rcases h5 with h5 | ⟨e1, e2, e3⟩
  ·exact absurd h5.1 hn
  ·exact (h6 hn).keep (fun i _ => ((hF b' (by rw [e2]; simp)) _).1) (fun g hg => hF g (by rw [e2]; simp [hg]))
mutual
theorem TmOwn.at {w : World} {B : Nat} : ∀ {t : Tm} {b o : Nat} {F : List Nat}, TmOwn w t b o F → (∀ g ∈ F, B ≤ g) → TmAt w B t b o
 | .mk k n l, b, o, F, h, hB => by
  rw [TmOwn] at h
  rw [TmAt]
  obtain ⟨a, cap, b', F', h1, h2, h3, h4, h5, h6⟩ := h
  refine ⟨a, cap, b', 0, h1, h2, h3, h4, fun hn => ?_, ?_⟩
  ·rcases h5 with h5 | ⟨e1, e2, e3⟩
   ·exact absurd h5.1 hn
   ·exact ⟨e1, hB b' (by rw [e2]; simp)⟩
  ·rcases h5 with h5 | ⟨e1, e2, e3⟩
   ·rw [h5.1, RowAt]; trivial
   ·by_cases hn : l = []
    ·rw [hn, RowAt]; trivial
    ·exact RowOwn.at (h6 hn) (fun g hg => hB g (by rw [e2]; simp [hg]))
theorem RowOwn.at {w : World} {B : Nat} : ∀ {l : List Tm} {b o : Nat} {F : List Nat}, RowOwn w l b o F → (∀ g ∈ F, B ≤ g) → RowAt w B l b o
 | [], _, _, _, _, _ => by rw [RowAt]; trivial
 | t :: l, b, o, F, h, hB => by
  rw [RowOwn] at h
  rw [RowAt]
  obtain ⟨F1, F2, rfl, h1, h2⟩ := h
  exact ⟨TmOwn.at h1 (fun g hg => hB g (by simp [hg])), RowOwn.at h2 (fun g hg => hB g (by simp [hg]))⟩
end
theorem SlOwn.sl {w : World} {B : Nat} {l : List Tm} {v : Value} {F : List Nat} (h : SlOwn w l v F) (hB : ∀ g ∈ F, B ≤ g) : SlIn w B l v := by
 obtain ⟨a, cap, b', F', rfl, h4, h5, h6⟩ := h
 refine ⟨a, cap, b', 0, rfl, h4, fun hn => ?_, ?_⟩
 ·rcases h5 with h5 | ⟨e1, e2, e3⟩
  ·exact absurd h5.1 hn
  ·exact ⟨e1, hB b' (by rw [e2]; simp)⟩
 ·by_cases hn : l = []
  ·rw [hn, RowAt]; trivial
  ·rcases h5 with h5 | ⟨e1, e2, e3⟩
   ·exact absurd h5.1 hn
   ·exact (h6 hn).at (fun g hg => hB g (by rw [e2]; simp [hg]))
theorem SlOwn.form {w : World} {l : List Tm} {v : Value} {F : List Nat} (h : SlOwn w l v F) : ∃ a cap, v = .slice a l.length cap := by
 obtain ⟨a, cap, _, _, h1, _⟩ := h
 exact ⟨a, cap, h1⟩
theorem SlOwn.nil (w : World) (a : Option Addr) (cap : Nat) : SlOwn w [] (.slice a 0 cap) [] := ⟨a, cap, 0, [], rfl, Nat.zero_le _, Or.inl ⟨rfl, rfl⟩, fun h => absurd rfl h⟩
end Go.Proofs.YtabbbnddfcbdiaaGreat
namespace Go.Proofs.YtabbbnddfcbdiaaGreat
open Go.RowKit
def under (k : Int) (i : Nat) : Int := if i = 1 ∧ (k = 3 ∨ k = 4 ∨ k = 13) then 1 else 0
theorem under_01 (k : Int) (i : Nat) : 0 ≤ under k i ∧ under k i ≤ 1 := by unfold under; split <;> omega
section
variable {S : Type} (f : S → Tm → Int → Int → Option S)
mutual
def Tm.trav : Tm → Int → Int → S → Option S
 | .mk k n l, b, d, s => (f s (.mk k n l) b d).bind fun s' => travL k l 0 b d s'
def travL : Int → List Tm → Nat → Int → Int → S → Option S
 | _, [], _, _, _, s => some s
 | k, t :: l, i, b, d, s => (t.trav (b + under k i) (d + 1) s).bind fun s' => travL k l (i + 1) b d s'
end
theorem travL_drop {k : Int} {l : List Tm} {q : Nat} {b d : Int} {s : S} (h : q < l.length) :
  travL f k (l.drop q) q b d s = (l[q].trav f (b + under k q) (d + 1) s).bind fun s' => travL f k (l.drop (q + 1)) (q + 1) b d s' := by
 rw [List.drop_eq_getElem_cons h, travL]
theorem travL_end {k : Int} {l : List Tm} {q : Nat} {b d : Int} {s : S} (h : l.length ≤ q) : travL f k (l.drop q) q b d s = some s := by
 rw [List.drop_eq_nil_of_le h, travL]
end
def freeStep {S : Type} (g : S → Int → S) (s : S) (t : Tm) (b _ : Int) : Option S := some (if t.kind = 1 ∧ b ≤ t.num then g s (t.num - b) else s)
mutual
def Tm.times : Tm → Int → Int
 | .mk k n l, x => (if k = 1 ∧ n = x then 1 else 0) + timesL k l 0 x
def timesL : Int → List Tm → Nat → Int → Int
 | _, [], _, _ => 0
 | k, t :: l, i, x => t.times (x + under k i) + timesL k l (i + 1) x
end
mutual
def Tm.most : Tm → Int → Int
 | .mk k n l, b => max (if k = 1 ∧ b ≤ n then n - b + 1 else 0) (mostL k l 0 b)
def mostL : Int → List Tm → Nat → Int → Int
 | _, [], _, _ => 0
 | k, t :: l, i, b => max (t.most (b + under k i)) (mostL k l (i + 1) b)
end
theorem Tm.most_eq (t : Tm) (b : Int) : t.most b = max (if t.kind = 1 ∧ b ≤ t.num then t.num - b + 1 else 0) (mostL t.kind t.kids 0 b) := by cases t; rw [Tm.most]; rfl
mutual
theorem Tm.most_bd : ∀ (t : Tm) (b : Int), t.allOk → 0 ≤ b → 0 ≤ t.most b ∧ t.most b ≤ 21
 | .mk k n l, b, h, hb => by
  rw [Tm.allOk] at h
  have h1 := mostL_bd l k 0 b h.2 hb
  have h2 := h.1.2.2
  rw [Tm.most]
  split
  ·rename_i e
   rw [e.1] at h2
   simp [mostN] at h2
   omega
  ·omega
theorem mostL_bd : ∀ (l : List Tm) (k : Int) (i : Nat) (b : Int), allsOk l → 0 ≤ b → 0 ≤ mostL k l i b ∧ mostL k l i b ≤ 21
 | [], k, i, b, _, _ => by rw [mostL]; omega
 | t :: l, k, i, b, h, hb => by
  rw [allsOk] at h
  have := under_01 k i
  have := Tm.most_bd t (b + under k i) h.1 (by omega)
  have := mostL_bd l k (i + 1) b h.2 hb
  rw [mostL]
  omega
end
theorem mostL_le {k : Int} {b : Int} : ∀ {l : List Tm} {i : Nat} {L : Int}, mostL k l i b ≤ L → ∀ (j : Nat) (h : j < l.length), l[j].most (b + under k (i + j)) ≤ L
 | [], i, L, _, j, h => by simp at h
 | t :: l, i, L, hL, j, h => by
  rw [mostL] at hL
  match j with
  | 0 => simpa using (show t.most (b + under k i) ≤ L by omega)
  | j + 1 =>
   have := mostL_le (l := l) (i := i + 1) (show mostL k l (i + 1) b ≤ L by omega) j (by simpa using h)
   rw [List.getElem_cons_succ, show i + (j + 1) = i + 1 + j by omega]
   exact this
def mostUse (s i : Int) : Int := max s (i + 1)
mutual
theorem Tm.trav_most : ∀ (t : Tm) (b d s : Int), 0 ≤ s → t.trav (freeStep mostUse) b d s = some (max s (t.most b))
 | .mk k n l, b, d, s, hs => by
  rw [Tm.trav, freeStep, Option.bind_some, Tm.most]
  show travL _ k l 0 b d (if k = 1 ∧ b ≤ n then mostUse s (n - b) else s) = _
  by_cases hk : k = 1 ∧ b ≤ n
  ·rw [if_pos hk, if_pos hk, mostUse, travL_most l k 0 b d _ (by omega)]
   congr 1
   omega
  ·rw [if_neg hk, if_neg hk, travL_most l k 0 b d _ hs]
   congr 1
   omega
theorem travL_most : ∀ (l : List Tm) (k : Int) (i : Nat) (b d s : Int), 0 ≤ s → travL (freeStep mostUse) k l i b d s = some (max s (mostL k l i b))
 | [], k, i, b, d, s, hs => by rw [travL, mostL]; congr 1; omega
 | t :: l, k, i, b, d, s, hs => by
  rw [travL, Tm.trav_most t _ _ s hs, Option.bind_some, travL_most l k (i + 1) b d _ (by omega), mostL]
  congr 1
  omega
end
noncomputable def maxFreeOf (t : Tm) : Int := @ite _ t.Valid (Classical.propDecidable _) (t.most 0) (-1)
theorem most_trav {t : Tm} (h : t.Valid) : t.trav (freeStep mostUse) 0 1 0 = some (maxFreeOf t) := by
 unfold maxFreeOf
 have hb := t.most_bd 0 h.1 (by omega)
 rw [if_pos h, Tm.trav_most t 0 1 0 (by omega)]
 congr 1
 omega
section
variable (ρ : Int → Int → Tm)
mutual
def Tm.repl : Tm → Int → Tm
 | .mk k n l, b => if k = 1 ∧ b ≤ n then ρ (n - b) b else .mk k n (replL k l 0 b)
def replL : Int → List Tm → Nat → Int → List Tm
 | _, [], _, _ => []
 | k, t :: l, i, b => t.repl (b + under k i) :: replL k l (i + 1) b
end
theorem replL_length : ∀ (k : Int) (l : List Tm) (i : Nat) (b : Int), (replL ρ k l i b).length = l.length
 | _, [], _, _ => by rw [replL]
 | k, t :: l, i, b => by rw [replL, List.length_cons, List.length_cons, replL_length]
end
section
variable (ok : Int → Int → Prop)
mutual
def Tm.okAll : Tm → Int → Prop
 | .mk k n l, b => if k = 1 ∧ b ≤ n then ok (n - b) b else okL k l 0 b
def okL : Int → List Tm → Nat → Int → Prop
 | _, [], _, _ => True
 | k, t :: l, i, b => t.okAll (b + under k i) ∧ okL k l (i + 1) b
end
end
mutual
def Tm.flat : Tm → List (Int × Int × Nat)
 | .mk k n l => (k, n, l.length) :: flatL l
def flatL : List Tm → List (Int × Int × Nat)
 | [] => []
 | t :: l => t.flat ++ flatL l
end
mutual
theorem Tm.flat_length : ∀ t : Tm, t.flat.length = t.size
 | .mk k n l => by rw [Tm.flat, Tm.size, List.length_cons, flatL_length l]; omega
theorem flatL_length : ∀ l : List Tm, (flatL l).length = sizes l
 | [] => by rw [flatL, sizes]; rfl
 | t :: l => by rw [flatL, sizes, List.length_append, Tm.flat_length t, flatL_length l]
end
abbrev Nodes := List (Int × Int × Nat)
noncomputable def emit (ok : Prop) (r : Tm) (d : Int) (s : Nodes) : Option Nodes :=
 @ite _ (ok ∧ s.length + r.size ≤ 400 ∧ d + (r.hgt : Int) ≤ 31) (Classical.propDecidable _) (some (s ++ r.flat)) none
noncomputable def emitL (ok : Prop) (rs : List Tm) (d : Int) (s : Nodes) : Option Nodes :=
 @ite _ (ok ∧ s.length + sizes rs ≤ 400 ∧ d + (hgts rs : Int) ≤ 30) (Classical.propDecidable _) (some (s ++ flatL rs)) none
def addNode (k n : Int) (m : Nat) (d : Int) (s : Nodes) : Option Nodes := if s.length = 400 ∨ 30 < d then none else some (s ++ [(k, n, m)])
theorem emit_leaf {ok : Prop} {k n : Int} {d : Int} {s : Nodes} (h : s.length ≤ 400) : emit ok (.mk k n []) d s = @ite _ ok (Classical.propDecidable _) (addNode k n 0 d s) none := by
 unfold emit addNode
 have hz : (Tm.mk k n []).size = 1 := by rw [Tm.size, sizes]
 have hh : (Tm.mk k n []).hgt = 1 := by rw [Tm.hgt, hgts]
 have hf : (Tm.mk k n []).flat = [(k, n, 0)] := by rw [Tm.flat, flatL]; rfl
 rw [hz, hh, hf]
 by_cases ho : ok
 ·rw [if_pos ho]
  by_cases hc : s.length = 400 ∨ 30 < d
  ·rw [if_pos hc, if_neg (by omega)]
  ·rw [if_neg hc, if_pos ⟨ho, by omega, by omega⟩]
 ·rw [if_neg ho, if_neg (fun e => ho e.1)]
noncomputable def copyStep (ok : Int → Int → Prop) (ρ : Int → Int → Tm) (s : Nodes) (t : Tm) (b d : Int) : Option Nodes :=
 if t.kind = 1 ∧ b ≤ t.num then emit (ok (t.num - b) b) (ρ (t.num - b) b) d s else addNode t.kind t.num t.kids.length d s
theorem flat_append_length (s : Nodes) (r : Tm) : (s ++ r.flat).length = s.length + r.size := by rw [List.length_append, r.flat_length]
mutual
theorem Tm.trav_copy (ok : Int → Int → Prop) (ρ : Int → Int → Tm) : ∀ (t : Tm) (b d : Int) (s : Nodes), t.allOk → s.length ≤ 400 → t.trav (copyStep ok ρ) b d s = emit (t.okAll ok b) (t.repl ρ b) d s
 | .mk k n l, b, d, s, h, hs => by
  rw [Tm.allOk] at h
  rw [Tm.trav, Tm.okAll, Tm.repl]
  by_cases hk : k = 1 ∧ b ≤ n
  ·have hl : l = [] := by
    have := h.1.1
    rw [hk.1] at this
    simp [arity] at this
    exact List.length_eq_zero_iff.1 (by omega)
   subst hl
   rw [if_pos hk, if_pos hk]
   have e : copyStep ok ρ s (.mk k n []) b d = emit (ok (n - b) b) (ρ (n - b) b) d s := by
    show (if k = 1 ∧ b ≤ n then emit (ok (n - b) b) (ρ (n - b) b) d s else addNode k n 0 d s) = _
    rw [if_pos hk]
   rw [e]
   cases emit (ok (n - b) b) (ρ (n - b) b) d s with
   | none => rfl
   | some s' => rw [Option.bind_some, travL]
  ·rw [if_neg hk, if_neg hk]
   have e : copyStep ok ρ s (.mk k n l) b d = addNode k n l.length d s := by
    show (if k = 1 ∧ b ≤ n then emit (ok (n - b) b) (ρ (n - b) b) d s else addNode k n l.length d s) = _
    rw [if_neg hk]
   have hz : (Tm.mk k n (replL ρ k l 0 b)).size = 1 + sizes (replL ρ k l 0 b) := by rw [Tm.size]
   have hh : (Tm.mk k n (replL ρ k l 0 b)).hgt = 1 + hgts (replL ρ k l 0 b) := by rw [Tm.hgt]
   have hf : (Tm.mk k n (replL ρ k l 0 b)).flat = (k, n, l.length) :: flatL (replL ρ k l 0 b) := by rw [Tm.flat, replL_length]
   rw [e]
   unfold addNode
   by_cases hc : s.length = 400 ∨ 30 < d
   ·rw [if_pos hc, Option.bind_none]
    unfold emit
    rw [if_neg]
    rw [hz, hh]
    omega
   ·rw [if_neg hc, Option.bind_some, travL_copy ok ρ l k 0 b d _ h.2 (by rw [List.length_append, List.length_singleton]; omega) (by omega)]
    unfold emit emitL
    rw [hz, hh, hf, List.length_append, List.length_singleton, List.append_assoc, List.singleton_append]
    by_cases h3 : okL ok k l 0 b ∧ s.length + 1 + sizes (replL ρ k l 0 b) ≤ 400 ∧ d + (hgts (replL ρ k l 0 b) : Int) ≤ 30
    ·rw [if_pos h3, if_pos ⟨h3.1, by omega, by omega⟩]
    ·rw [if_neg h3, if_neg (fun e => h3 ⟨e.1, by omega, by omega⟩)]
theorem travL_copy (ok : Int → Int → Prop) (ρ : Int → Int → Tm) : ∀ (l : List Tm) (k : Int) (i : Nat) (b d : Int) (s : Nodes), allsOk l → s.length ≤ 400 → d ≤ 30 → travL (copyStep ok ρ) k l i b d s = emitL (okL ok k l i b) (replL ρ k l i b) d s
 | [], k, i, b, d, s, _, hs, hd => by
  rw [travL, okL, replL]
  unfold emitL
  rw [if_pos ⟨trivial, by rw [sizes]; omega, by rw [hgts]; omega⟩, flatL, List.append_nil]
 | t :: l, k, i, b, d, s, h, hs, hd => by
  rw [allsOk] at h
  rw [travL, Tm.trav_copy ok ρ t _ _ s h.1 hs, okL, replL]
  have hz : sizes (t.repl ρ (b + under k i) :: replL ρ k l (i + 1) b) = (t.repl ρ (b + under k i)).size + sizes (replL ρ k l (i + 1) b) := by rw [sizes]
  have hh : hgts (t.repl ρ (b + under k i) :: replL ρ k l (i + 1) b) = max (t.repl ρ (b + under k i)).hgt (hgts (replL ρ k l (i + 1) b)) := by rw [hgts]
  have hf : flatL (t.repl ρ (b + under k i) :: replL ρ k l (i + 1) b) = (t.repl ρ (b + under k i)).flat ++ flatL (replL ρ k l (i + 1) b) := by rw [flatL]
  by_cases h1 : t.okAll ok (b + under k i) ∧ s.length + (t.repl ρ (b + under k i)).size ≤ 400 ∧ d + 1 + ((t.repl ρ (b + under k i)).hgt : Int) ≤ 31
  ·have e1 : emit (t.okAll ok (b + under k i)) (t.repl ρ (b + under k i)) (d + 1) s = some (s ++ (t.repl ρ (b + under k i)).flat) := by
    unfold emit; rw [if_pos h1]
   rw [e1, Option.bind_some, travL_copy ok ρ l k (i + 1) b d _ h.2 (by rw [flat_append_length]; omega) hd]
   unfold emitL
   rw [hz, hh, hf, flat_append_length, List.append_assoc]
   by_cases h2 : okL ok k l (i + 1) b ∧ s.length + (t.repl ρ (b + under k i)).size + sizes (replL ρ k l (i + 1) b) ≤ 400 ∧ d + (hgts (replL ρ k l (i + 1) b) : Int) ≤ 30
   ·rw [if_pos h2, if_pos ⟨⟨h1.1, h2.1⟩, by omega, by omega⟩]
   ·rw [if_neg h2, if_neg (fun e => h2 ⟨e.1.2, by omega, by omega⟩)]
  ·have e1 : emit (t.okAll ok (b + under k i)) (t.repl ρ (b + under k i)) (d + 1) s = none := by
    unfold emit; rw [if_neg h1]
   rw [e1, Option.bind_none]
   unfold emitL
   rw [hz, hh, if_neg (fun e => h1 ⟨e.1.1, by omega, by omega⟩)]
end
end Go.Proofs.YtabbbnddfcbdiaaGreat
