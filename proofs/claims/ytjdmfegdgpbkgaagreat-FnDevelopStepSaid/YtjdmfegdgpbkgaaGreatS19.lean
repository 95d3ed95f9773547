/-
  Open, Pure, View.
-/
import Derived.Test.YtjdmfegdgpbkgaaGreatS01
import Derived.Test.YtjdmfegdgpbkgaaGreatS05
import Derived.Test.YtjdmfegdgpbkgaaGreatS07
import Derived.Test.YtjdmfegdgpbkgaaGreatS09
import Derived.Test.YtjdmfegdgpbkgaaGreatS11
import Derived.Carry
import Derived.Deep.Slices
import Derived.Deep.Strs
import Derived.OpenShut
import Derived.ProofKit
import Derived.Test.YtjdmfegdgpbkgaaGreatRows
namespace Go.Proofs.YtjdmfegdgpbkgaaGreat
open Go.ChangeShapes Go.WideShapes Go.ChangeAt Go.RowKit Go.Deep
theorem own : ownKnob Tryz.prog.godebug = none := by kernel_rfl
section
variable {H : Type} {enc : TypeId × Value → H} {W : World}
set_option maxRecDepth 100000 in
theorem stays_all (hl : laidOutB Tryz.prog = true) {W' : World} {sp : Nat → Bool} (hb : Below W.heap.size W W') : ∀ (ts : List TypeId) (vs : List Value) (ds : List (DataW H)) (ps : List MemPlace), (∀ t ∈ ts, Tryz.prog.readableRec t = true ∧ t < Tryz.prog.types.size) →
  DataW.TrodAll enc Tryz.prog W 0 (fun _ => true) true ts vs ds ps → (∀ p ∈ ps, p.block < W.heap.size) → (∀ p ∈ ps, sp p.block = true) → DataW.TrodAll enc Tryz.prog W' 0 sp true ts vs ds ps
 | [], [], [], _, _, h, _, _ => h
 | t :: ts, v :: vs, d :: ds, ps, hr, ⟨p, q, h0, h1, e⟩, hlt, hsp => by
  subst e
  refine ⟨p, q, WideElems.Trod_stays hl (hr t (by simp)).1 (hr t (by simp)).2 h0 (fun x hx => hb.same (hlt x (by simp [hx]))) (fun x hx => hsp x (by simp [hx])), ?_, rfl⟩
  exact stays_all hl hb ts vs ds q (fun t ht => hr t (by simp [ht])) h1 (fun x hx => hlt x (by simp [hx])) (fun x hx => hsp x (by simp [hx]))
set_option maxRecDepth 100000 in
theorem law_post {f : Func} {s : ChangeSpec} {W' : World} {args : Array Value} {ds gs : List (DataW H)} {before : List MemPlace} (hf : f.resultTypes = #[4]) (hv : s.vars = [])
  (hs : ∀ gs, gs = [] → s.fn H (ds ++ gs) = { results := [.lit (.bool true)], args := ds }) (hr : ∀ t ∈ f.params.toList, Tryz.prog.readableRec t = true ∧ t < Tryz.prog.types.size)
  (hl : laidOutB Tryz.prog = true) (hW : DataW.Whole enc Tryz.prog f.params.toList s.vars false W args.toList ds gs before) (hb : Below W.heap.size W W') : s.post enc Tryz.prog f false true false false W args (.bool true) W' := by
 have hW0 := hW
 obtain ⟨p, q, hA, hV, rfl, _, _⟩ := hW
 have hlt := fun x hx => hW0.lt x hx
 have hg : gs = [] ∧ q = [] := by
  rw [hv] at hV
  cases gs with
  | nil => exact ⟨rfl, hV⟩
  | cons g gs => exact absurd hV (by simp [DataW.TrodVars])
 obtain ⟨rfl, rfl⟩ := hg
 refine ⟨ds, [], p ++ [], [], p, [], hW0, ?_, ?_, ?_, hb.frame _, fun h => by cases h⟩
 ·rw [hs [] rfl, hf]
  exact ⟨[], [], shut_bool Tryz.underlying4 _, rfl, rfl⟩
 ·rw [hs [] rfl]
  exact stays_all hl hb _ _ _ _ hr hA (fun x hx => hlt x (by simp [hx])) (fun x hx => by simpa using hlt x (by simp [hx]))
 ·rw [hv, hs [] rfl]
  rfl
end
end Go.Proofs.YtjdmfegdgpbkgaaGreat
namespace Go.Proofs.YtjdmfegdgpbkgaaGreat
open Go.ChangeShapes Go.WideShapes Go.ChangeAt Go.RowKit Go.Deep
instance : Inhabited Tm := ⟨.mk 0 0 []⟩
section
variable {H : Type} {enc : TypeId × Value → H} {W : World}
end
end Go.Proofs.YtjdmfegdgpbkgaaGreat
namespace Go.Proofs.YtjdmfegdgpbkgaaGreat
theorem under_succ (k : Int) (i : Nat) : 0 ≤ under k i := (under_01 k i).1
-- limits and occurrences
-- shifts
mutual
theorem Tm.times_shift (e : Int) : ∀ (t : Tm) (c x : Int), t.keeps e c → (x < c → (t.shift e c).times x = t.times x) ∧ (c ≤ x → c ≤ x + e → (t.shift e c).times (x + e) = t.times x) ∧ (c ≤ x → x + e < c → t.times x = 0)
 | .mk k n l, c, x, h => by
  rw [Tm.keeps] at h
  obtain ⟨h1, h2, h3⟩ := timesL_shift e l k 0 c x h.2
  have hk := h.1
  rw [Tm.shift, Tm.times, Tm.times, Tm.times]
  refine ⟨fun hx => ?_, fun hx hx' => ?_, fun hx hx' => ?_⟩
  ·rw [h1 hx]
   congr 1
   by_cases e1 : k = 1 ∧ c ≤ n
   ·have := hk e1
    rw [if_pos e1, if_neg (by omega), if_neg (by omega)]
   ·rw [if_neg e1]
  ·rw [h2 hx hx']
   congr 1
   by_cases e1 : k = 1 ∧ c ≤ n
   ·rw [if_pos e1]
    by_cases e2 : n = x
    ·rw [if_pos ⟨e1.1, by omega⟩, if_pos ⟨e1.1, e2⟩]
    ·rw [if_neg (by omega), if_neg (by omega)]
   ·rw [if_neg e1, if_neg (by omega), if_neg (by omega)]
  ·rw [h3 hx hx', if_neg]
   ·rfl
   ·rintro ⟨rfl, rfl⟩
    have := hk ⟨rfl, hx⟩
    omega
theorem timesL_shift (e : Int) : ∀ (l : List Tm) (k : Int) (i : Nat) (c x : Int), keepsL e k l i c → (x < c → timesL k (shiftL e k l i c) i x = timesL k l i x) ∧ (c ≤ x → c ≤ x + e → timesL k (shiftL e k l i c) i (x + e) = timesL k l i x) ∧ (c ≤ x → x + e < c → timesL k l i x = 0)
 | [], _, _, _, _, _ => by simp [shiftL, timesL]
 | t :: l, k, i, c, x, h => by
  rw [keepsL] at h
  obtain ⟨h1, h2, h3⟩ := timesL_shift e l k (i + 1) c x h.2
  obtain ⟨g1, g2, g3⟩ := Tm.times_shift e t (c + under k i) (x + under k i) h.1
  rw [shiftL, timesL, timesL, timesL]
  refine ⟨fun hx => by rw [h1 hx, g1 (by omega)], fun hx hx' => ?_, fun hx hx' => by rw [h3 hx hx', g3 (by omega) (by omega)]; rfl⟩
  rw [h2 hx hx', show x + e + under k i = x + under k i + e by omega, g2 (by omega) (by omega)]
end
-- substitutions
mutual
theorem Tm.shift_in (e d : Int) (hd : 0 ≤ d) : ∀ (t : Tm) (c0 c : Int), c0 ≤ c → c ≤ c0 + d → (t.shift d c0).shift e c = t.shift (d + e) c0
 | .mk k n l, c0, c, h0, h1 => by
  rw [Tm.shift, Tm.shift, Tm.shift, shiftL_in e d hd l k 0 c0 c h0 h1]
  congr 1
  by_cases hk : k = 1 ∧ c0 ≤ n
  ·rw [if_pos hk, if_pos ⟨hk.1, by omega⟩, if_pos hk]; omega
  ·rw [if_neg hk, if_neg hk, if_neg (by omega)]
theorem shiftL_in (e d : Int) (hd : 0 ≤ d) : ∀ (l : List Tm) (k : Int) (i : Nat) (c0 c : Int), c0 ≤ c → c ≤ c0 + d → shiftL e k (shiftL d k l i c0) i c = shiftL (d + e) k l i c0
 | [], _, _, _, _, _, _ => by rw [shiftL, shiftL, shiftL]
 | t :: l, k, i, c0, c, h0, h1 => by
  rw [shiftL, shiftL, shiftL, Tm.shift_in e d hd t _ _ (by omega) (by omega), shiftL_in e d hd l k _ c0 c h0 h1]
end
mutual
theorem Tm.shift_subst (v : Tm) (e : Int) (he : 0 ≤ e) : ∀ (t : Tm) (c x d : Int), 0 ≤ c → c ≤ d → c ≤ x → (t.shift e c).subst v (x + e) (d + e) = (t.subst v x d).shift e c
 | .mk k n l, c, x, d, h0, h1, h2 => by
  rw [Tm.shift, Tm.subst, Tm.subst]
  by_cases hx : k = 1 ∧ n = x
  ·rw [if_pos ⟨hx.1, by omega⟩, if_pos ⟨hx.1, by omega⟩, Tm.shift_in e d (by omega) v 0 c h0 (by omega)]
  ·have hn : ¬ (k = 1 ∧ (if k = 1 ∧ c ≤ n then n + e else n) = x + e) := by
    rintro ⟨rfl, h⟩
    by_cases hc : c ≤ n
    ·rw [if_pos ⟨rfl, hc⟩] at h
     exact hx ⟨rfl, by omega⟩
    ·rw [if_neg (fun e => hc e.2)] at h
     omega
   rw [if_neg hn, if_neg hx, Tm.shift, shiftL_subst v e he l k 0 c x d h0 h1 h2]
   clear hn
   congr 1
   (repeat' split) <;> omega
theorem shiftL_subst (v : Tm) (e : Int) (he : 0 ≤ e) : ∀ (l : List Tm) (k : Int) (i : Nat) (c x d : Int), 0 ≤ c → c ≤ d → c ≤ x → substL v k (shiftL e k l i c) i (x + e) (d + e) = shiftL e k (substL v k l i x d) i c
 | [], _, _, _, _, _, _, _, _ => by rw [shiftL, substL, substL, shiftL]
 | t :: l, k, i, c, x, d, h0, h1, h2 => by
  have := under_succ k i
  rw [shiftL, substL, substL, shiftL, show x + e + under k i = x + under k i + e by omega, show d + e + under k i = d + under k i + e by omega,
   Tm.shift_subst v e he t _ _ _ (by omega) (by omega) (by omega), shiftL_subst v e he l k _ c x d h0 h1 h2]
end
mutual
theorem Tm.subst_room (u : Tm) (b : Int) (hb : 0 ≤ b) : ∀ (t : Tm) (c d x : Int), c ≤ x → x ≤ c + b → (t.shift (b + 1) c).subst u x d = t.shift b c
 | .mk k n l, c, d, x, h0, h1 => by
  rw [Tm.shift, Tm.subst, Tm.shift, substL_room u b hb l k 0 c d x h0 h1]
  by_cases hk : k = 1 ∧ c ≤ n
  ·rw [if_pos hk, if_neg (by omega), if_pos ⟨hk.1, by omega⟩, if_pos hk]
   congr 1; omega
  ·rw [if_neg hk, if_neg (by omega), if_neg (by omega), if_neg hk]
theorem substL_room (u : Tm) (b : Int) (hb : 0 ≤ b) : ∀ (l : List Tm) (k : Int) (i : Nat) (c d x : Int), c ≤ x → x ≤ c + b → substL u k (shiftL (b + 1) k l i c) i x d = shiftL b k l i c
 | [], _, _, _, _, _, _, _ => by rw [shiftL, substL, shiftL]
 | t :: l, k, i, c, d, x, h0, h1 => by
  rw [shiftL, substL, shiftL, Tm.subst_room u b hb t _ _ _ (by omega) (by omega), substL_room u b hb l k _ c d x h0 h1]
end
-- renamings
end Go.Proofs.YtjdmfegdgpbkgaaGreat
namespace Go.Proofs.YtjdmfegdgpbkgaaGreat
open Go.RowKit
theorem SlIn.keep2 {w w' : World} {B : Nat} : ∀ {l : List Tm} {v : Value}, SlIn w B l v → (∀ (p : Addr) (u : Value), B ≤ p.block → w.cell? p = some u → w'.cell? p = some u) → SlIn w' B l v := by
 intro l
 induction l using Tm.ind with
 | h l ih =>
  rintro v ⟨a, cap, b, o, rfl, h1, h2, h3⟩ hk
  refine ⟨a, cap, b, o, rfl, h1, h2, RowAt.of_get fun i hi => ?_⟩
  have hB : B ≤ b := (h2 (by intro e; subst e; simp at hi)).2
  obtain ⟨s, c0, c1, c2, hs⟩ := TmAt_iff.1 (h3.get i hi)
  exact TmAt_iff.2 ⟨s, hk _ _ hB c0, hk _ _ hB c1, hk _ _ hB c2, ih i hi hs hk⟩
noncomputable def mask (w : World) (X : Nat → Prop) : World := { w with heap := w.heap.mapIdx fun i o => @ite _ (X i) (Classical.propDecidable _) (.cells #[] 0 (0, 0)) o }
theorem mask_size (w : World) (X : Nat → Prop) : (mask w X).heap.size = w.heap.size := by simp [mask]
theorem mask_cell {w : World} {X : Nat → Prop} {p : Addr} {u : Value} : (mask w X).cell? p = some u ↔ ¬ X p.block ∧ w.cell? p = some u := by
 have he : (mask w X).heap[p.block]? = (w.heap[p.block]?).map fun o => @ite _ (X p.block) (Classical.propDecidable _) (.cells #[] 0 (0, 0)) o := by simp [mask]
 unfold World.cell?
 rw [he]
 cases hw : w.heap[p.block]? with
 | none => simp
 | some o =>
  by_cases hx : X p.block
  ·simp [hx]
  ·simp [hx]
structure View (u : World) (M : Nat → Prop) (w : World) : Prop where
 rd : ∀ (p : Addr) (x : Value), u.cell? p = some x → w.cell? p = some x
 off : ∀ (p : Addr) (x : Value), u.cell? p = some x → ¬ M p.block
theorem View.step {u w w' : World} {M M' : Nat → Prop} (h : View u M w) (hs : Step M w w' M') : View u M' w' :=
 ⟨fun p x hc => (hs.cell (World.block_lt_of_cell? w p (h.rd p x hc)) (h.off p x hc)).trans (h.rd p x hc), fun p x hc hm => h.off p x hc (hs.grow _ (World.block_lt_of_cell? w p (h.rd p x hc)) hm)⟩
theorem View.below {u w w' : World} {M : Nat → Prop} (h : View u M w) (hb : Below w.heap.size w w') : View u M w' :=
 ⟨fun p x hc => (hb.cell (World.block_lt_of_cell? w p (h.rd p x hc))).trans (h.rd p x hc), h.off⟩
theorem View.set {u w : World} {M : Nat → Prop} (h : View u M w) {q : Addr} (hq : M q.block) (y : Value) : View u M (w.setCell q y) :=
 ⟨fun p x hc => (World.cell?_setCell_other w q p y (fun e => h.off p x hc (by subst e; exact hq))).trans (h.rd p x hc), h.off⟩
theorem View.of_below {u w : World} {M : Nat → Prop} (h : Below u.heap.size u w) (hM : ∀ i, M i → u.heap.size ≤ i) : View u M w :=
 ⟨fun p x hc => (h.cell (World.block_lt_of_cell? u p hc)).trans hc, fun p x hc hm => by have := World.block_lt_of_cell? u p hc; have := hM _ hm; omega⟩
theorem View.mask (w : World) (M : Nat → Prop) : View (mask w M) M w := ⟨fun _ _ h => (mask_cell.1 h).2, fun _ _ h => (mask_cell.1 h).1⟩
theorem View.sl {u w : World} {M : Nat → Prop} {l : List Tm} {v : Value} (h : View u M w) (hs : SlIn u 0 l v) : SlIn w 0 l v := hs.keep2 fun p x _ hc => h.rd p x hc
theorem View.self {w : World} {M : Nat → Prop} (hM : ∀ i, M i → w.heap.size ≤ i) : View w M w := View.of_below (Below.refl _ _) hM
def SlX (w : World) (X : Nat → Prop) (l : List Tm) (v : Value) : Prop := SlIn (Go.Proofs.YtjdmfegdgpbkgaaGreat.mask w X) 0 l v
theorem SlX.sl {w : World} {X : Nat → Prop} {l : List Tm} {v : Value} (h : SlX w X l v) : SlIn w 0 l v := (View.mask w X).sl h
theorem SlX.of_view {u w : World} {X : Nat → Prop} {l : List Tm} {v : Value} (h : SlIn u 0 l v) (hv : View u X w) : SlX w X l v := h.keep2 fun p x _ hc => mask_cell.2 ⟨hv.off p x hc, hv.rd p x hc⟩
theorem SlX.to {w w' : World} {X X' : Nat → Prop} {l : List Tm} {v : Value} (h : SlX w X l v) (hk : ∀ (p : Addr) (u : Value), ¬ X p.block → w.cell? p = some u → ¬ X' p.block ∧ w'.cell? p = some u) : SlX w' X' l v :=
 h.keep2 fun p u _ hc => mask_cell.2 (hk p u (mask_cell.1 hc).1 (mask_cell.1 hc).2)
theorem SlX.of_sl {w : World} {X : Nat → Prop} {B : Nat} {l : List Tm} {v : Value} (h : SlIn w B l v) (hX : ∀ i, X i → i < B) : SlX w X l v :=
 SlIn.mono (h.keep2 fun p u hp hc => mask_cell.2 ⟨fun hx => by have := hX _ hx; omega, hc⟩) (Nat.zero_le _)
theorem SlX.below {w w' : World} {X : Nat → Prop} {l : List Tm} {v : Value} (h : SlX w X l v) (hb : Below w.heap.size w w') : SlX w' X l v :=
 SlX.of_view h ((View.mask w X).below hb)
theorem SlX.set {w : World} {X : Nat → Prop} {l : List Tm} {v : Value} (h : SlX w X l v) {q : Addr} (hq : X q.block) (y : Value) : SlX (w.setCell q y) X l v :=
 SlX.of_view h ((View.mask w X).set hq y)
theorem SlX.form {w : World} {X : Nat → Prop} {l : List Tm} {v : Value} (h : SlX w X l v) : ∃ a cap, v = .slice a l.length cap := SlIn.form h
theorem SlX.nil (w : World) (X : Nat → Prop) (a : Option Addr) (cap : Nat) : SlX w X [] (.slice a 0 cap) := SlIn.nil _ _ _ _
theorem SlX.open {w : World} {X : Nat → Prop} {l : List Tm} {v : Value} (h : SlX w X l v) : ∃ (a : Option Addr) (cap b o : Nat), v = .slice a l.length cap ∧ l.length ≤ maxLen ∧ (l ≠ [] → a = some ⟨b, o, none⟩ ∧ ¬ X b ∧ b < w.heap.size) ∧
  ∀ i (hi : i < l.length), ∃ s, w.cell? ⟨b, o + i * 3, none⟩ = some (.int .i64 l[i].kind) ∧ w.cell? ⟨b, o + i * 3 + 1, none⟩ = some (.int .i64 l[i].num) ∧ w.cell? ⟨b, o + i * 3 + 2, none⟩ = some s ∧ SlX w X l[i].kids s := by
 obtain ⟨a, cap, b, o, rfl, h1, h2, h3⟩ := SlIn.open h
 refine ⟨a, cap, b, o, rfl, h1, fun hn => ⟨(h2 hn).1, ?_, by have := (h2 hn).2.2; rwa [mask_size] at this⟩, fun i hi => ?_⟩
 ·obtain ⟨s, c0, _⟩ := h3 0 (List.length_pos_iff.2 hn)
  exact (mask_cell.1 c0).1
 ·obtain ⟨s, c0, c1, c2, hs⟩ := h3 i hi
  exact ⟨s, (mask_cell.1 c0).2, (mask_cell.1 c1).2, (mask_cell.1 c2).2, hs⟩
theorem SlX.mk {w : World} {X : Nat → Prop} {l : List Tm} {b o cap : Nat} (hl : l.length ≤ maxLen) (hb : ¬ X b) (h : ∀ i (hi : i < l.length), ∃ s, w.cell? ⟨b, o + i * 3, none⟩ = some (.int .i64 l[i].kind) ∧ w.cell? ⟨b, o + i * 3 + 1, none⟩ = some (.int .i64 l[i].num) ∧ w.cell? ⟨b, o + i * 3 + 2, none⟩ = some s ∧ SlX w X l[i].kids s) :
  SlX w X l (.slice (some ⟨b, o, none⟩) l.length cap) :=
 ⟨_, cap, b, o, rfl, hl, fun _ => ⟨rfl, Nat.zero_le _⟩, RowAt.of_get fun i hi => by
  obtain ⟨s, c0, c1, c2, hs⟩ := h i hi
  exact TmAt_iff.2 ⟨s, mask_cell.2 ⟨hb, c0⟩, mask_cell.2 ⟨hb, c1⟩, mask_cell.2 ⟨hb, c2⟩, hs⟩⟩
end Go.Proofs.YtjdmfegdgpbkgaaGreat
