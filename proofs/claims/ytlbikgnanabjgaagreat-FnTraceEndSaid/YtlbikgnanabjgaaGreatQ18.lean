/-
  RngC, View.
-/
import Derived.Test.YtlbikgnanabjgaaGreatQ05
import Derived.Test.YtlbikgnanabjgaaGreatQ06
import Derived.Test.YtlbikgnanabjgaaGreatQ08
import Derived.RangeFuncBound
import Derived.RangeFuncCalls
import Derived.RangeFuncLeaves
import Derived.RangeFuncNested
namespace Go.Proofs.YtlbikgnanabjgaaGreat
open Go.RowKit
theorem SlIn.keep2 {w w' : World} {B : Nat} : ∀ {l : List Tm} {v : Value}, SlIn w B l v → (∀ (p : Addr) (u : Value), B ≤ p.block → w.cell? p = some u → w'.cell? p = some u) → SlIn w' B l v := by
 intro l
 induction l using Tm.ind with
 | h l ih =>
  rintro v ⟨a, cap, b, o, rfl, h1, h2, h3⟩ hk
  refine ⟨a, cap, b, o, rfl, h1, h2, RowAt.of_get fun i hi => ?_⟩
  have hB : B ≤ b := (h2 (by intro e; subst e; simp at hi)).2
  obtain ⟨s, c0, c1, c2, hs⟩ := TmAt_iff.1 (h3.get i hi)
  exact TmAt_iff.2 ⟨s, hk _ _ hB c0, hk _ _ hB c1, hk _ _ hB c2, ih i hi hs hk⟩
noncomputable def mask (w : World) (X : Nat → Prop) : World := { w with heap := w.heap.mapIdx fun i o => @ite _ (X i) (Classical.propDecidable _) (.cells #[] 0 (0, 0)) o }
theorem mask_size (w : World) (X : Nat → Prop) : (mask w X).heap.size = w.heap.size := by simp [mask]
theorem mask_cell {w : World} {X : Nat → Prop} {p : Addr} {u : Value} : (mask w X).cell? p = some u ↔ ¬ X p.block ∧ w.cell? p = some u := by
 have he : (mask w X).heap[p.block]? = (w.heap[p.block]?).map fun o => @ite _ (X p.block) (Classical.propDecidable _) (.cells #[] 0 (0, 0)) o := by simp [mask]
 unfold World.cell?
 rw [he]
 cases hw : w.heap[p.block]? with
 | none => simp
 | some o =>
  by_cases hx : X p.block
  ·simp [hx]
  ·simp [hx]
structure View (u : World) (M : Nat → Prop) (w : World) : Prop where
 rd : ∀ (p : Addr) (x : Value), u.cell? p = some x → w.cell? p = some x
 off : ∀ (p : Addr) (x : Value), u.cell? p = some x → ¬ M p.block
theorem View.step {u w w' : World} {M M' : Nat → Prop} (h : View u M w) (hs : Step M w w' M') : View u M' w' :=
 ⟨fun p x hc => (hs.cell (World.block_lt_of_cell? w p (h.rd p x hc)) (h.off p x hc)).trans (h.rd p x hc), fun p x hc hm => h.off p x hc (hs.grow _ (World.block_lt_of_cell? w p (h.rd p x hc)) hm)⟩
theorem View.below {u w w' : World} {M : Nat → Prop} (h : View u M w) (hb : Below w.heap.size w w') : View u M w' :=
 ⟨fun p x hc => (hb.cell (World.block_lt_of_cell? w p (h.rd p x hc))).trans (h.rd p x hc), h.off⟩
theorem View.set {u w : World} {M : Nat → Prop} (h : View u M w) {q : Addr} (hq : M q.block) (y : Value) : View u M (w.setCell q y) :=
 ⟨fun p x hc => (World.cell?_setCell_other w q p y (fun e => h.off p x hc (by subst e; exact hq))).trans (h.rd p x hc), h.off⟩
theorem View.of_below {u w : World} {M : Nat → Prop} (h : Below u.heap.size u w) (hM : ∀ i, M i → u.heap.size ≤ i) : View u M w :=
 ⟨fun p x hc => (h.cell (World.block_lt_of_cell? u p hc)).trans hc, fun p x hc hm => by have := World.block_lt_of_cell? u p hc; have := hM _ hm; omega⟩
theorem View.mask (w : World) (M : Nat → Prop) : View (mask w M) M w := ⟨fun _ _ h => (mask_cell.1 h).2, fun _ _ h => (mask_cell.1 h).1⟩
theorem View.sl {u w : World} {M : Nat → Prop} {l : List Tm} {v : Value} (h : View u M w) (hs : SlIn u 0 l v) : SlIn w 0 l v := hs.keep2 fun p x _ hc => h.rd p x hc
theorem View.self {w : World} {M : Nat → Prop} (hM : ∀ i, M i → w.heap.size ≤ i) : View w M w := View.of_below (Below.refl _ _) hM
def SlX (w : World) (X : Nat → Prop) (l : List Tm) (v : Value) : Prop := SlIn (Go.Proofs.YtlbikgnanabjgaaGreat.mask w X) 0 l v
theorem SlX.sl {w : World} {X : Nat → Prop} {l : List Tm} {v : Value} (h : SlX w X l v) : SlIn w 0 l v := (View.mask w X).sl h
theorem SlX.of_view {u w : World} {X : Nat → Prop} {l : List Tm} {v : Value} (h : SlIn u 0 l v) (hv : View u X w) : SlX w X l v := h.keep2 fun p x _ hc => mask_cell.2 ⟨hv.off p x hc, hv.rd p x hc⟩
theorem SlX.to {w w' : World} {X X' : Nat → Prop} {l : List Tm} {v : Value} (h : SlX w X l v) (hk : ∀ (p : Addr) (u : Value), ¬ X p.block → w.cell? p = some u → ¬ X' p.block ∧ w'.cell? p = some u) : SlX w' X' l v :=
 h.keep2 fun p u _ hc => mask_cell.2 (hk p u (mask_cell.1 hc).1 (mask_cell.1 hc).2)
theorem SlX.of_sl {w : World} {X : Nat → Prop} {B : Nat} {l : List Tm} {v : Value} (h : SlIn w B l v) (hX : ∀ i, X i → i < B) : SlX w X l v :=
 SlIn.mono (h.keep2 fun p u hp hc => mask_cell.2 ⟨fun hx => by have := hX _ hx; omega, hc⟩) (Nat.zero_le _)
theorem SlX.below {w w' : World} {X : Nat → Prop} {l : List Tm} {v : Value} (h : SlX w X l v) (hb : Below w.heap.size w w') : SlX w' X l v :=
 SlX.of_view h ((View.mask w X).below hb)
theorem SlX.set {w : World} {X : Nat → Prop} {l : List Tm} {v : Value} (h : SlX w X l v) {q : Addr} (hq : X q.block) (y : Value) : SlX (w.setCell q y) X l v :=
 SlX.of_view h ((View.mask w X).set hq y)
theorem SlX.form {w : World} {X : Nat → Prop} {l : List Tm} {v : Value} (h : SlX w X l v) : ∃ a cap, v = .slice a l.length cap := SlIn.form h
theorem SlX.nil (w : World) (X : Nat → Prop) (a : Option Addr) (cap : Nat) : SlX w X [] (.slice a 0 cap) := SlIn.nil _ _ _ _
theorem SlX.open {w : World} {X : Nat → Prop} {l : List Tm} {v : Value} (h : SlX w X l v) : ∃ (a : Option Addr) (cap b o : Nat), v = .slice a l.length cap ∧ l.length ≤ maxLen ∧ (l ≠ [] → a = some ⟨b, o, none⟩ ∧ ¬ X b ∧ b < w.heap.size) ∧
  ∀ i (hi : i < l.length), ∃ s, w.cell? ⟨b, o + i * 3, none⟩ = some (.int .i64 l[i].kind) ∧ w.cell? ⟨b, o + i * 3 + 1, none⟩ = some (.int .i64 l[i].num) ∧ w.cell? ⟨b, o + i * 3 + 2, none⟩ = some s ∧ SlX w X l[i].kids s := by
 obtain ⟨a, cap, b, o, rfl, h1, h2, h3⟩ := SlIn.open h
 refine ⟨a, cap, b, o, rfl, h1, fun hn => ⟨(h2 hn).1, ?_, by have := (h2 hn).2.2; rwa [mask_size] at this⟩, fun i hi => ?_⟩
 ·obtain ⟨s, c0, _⟩ := h3 0 (List.length_pos_iff.2 hn)
  exact (mask_cell.1 c0).1
 ·obtain ⟨s, c0, c1, c2, hs⟩ := h3 i hi
  exact ⟨s, (mask_cell.1 c0).2, (mask_cell.1 c1).2, (mask_cell.1 c2).2, hs⟩
theorem SlX.mk {w : World} {X : Nat → Prop} {l : List Tm} {b o cap : Nat} (hl : l.length ≤ maxLen) (hb : ¬ X b) (h : ∀ i (hi : i < l.length), ∃ s, w.cell? ⟨b, o + i * 3, none⟩ = some (.int .i64 l[i].kind) ∧ w.cell? ⟨b, o + i * 3 + 1, none⟩ = some (.int .i64 l[i].num) ∧ w.cell? ⟨b, o + i * 3 + 2, none⟩ = some s ∧ SlX w X l[i].kids s) :
  SlX w X l (.slice (some ⟨b, o, none⟩) l.length cap) :=
 ⟨_, cap, b, o, rfl, hl, fun _ => ⟨rfl, Nat.zero_le _⟩, RowAt.of_get fun i hi => by
  obtain ⟨s, c0, c1, c2, hs⟩ := h i hi
  exact TmAt_iff.2 ⟨s, mask_cell.2 ⟨hb, c0⟩, mask_cell.2 ⟨hb, c1⟩, mask_cell.2 ⟨hb, c2⟩, hs⟩⟩
end Go.Proofs.YtlbikgnanabjgaaGreat
namespace Go.Proofs.YtlbikgnanabjgaaGreat
open Go.RowKit
def SeqCells {σ : Type} (F : Fence) (n : Nat) (P : Program) (gf : Nat) (lb : Array Value) (N : Nat) (enc : σ → Array Value) (At : Nat → σ → (Nat → Prop) → World → Prop) (w0 : World) : Prop :=
 ∀ (l : Nat) (J : Nat → (Nat → Prop) → World → Prop) (W : World), Below w0.heap.size w0 W →
  (∀ k M M' A B, J k M A → Step M A B M' → J k M' B) →
  (∀ k M s A, k < N → J k M A → At k s M A → YieldAt F (n - 1) P l (enc s) A fun e B => e = .returned (.bool true) ∧ J (k + 1) M B ∧ At k s M B) →
  J 0 (fun _ => False) W →
  CallsIn F n P gf (#[.func (.yield l) #[] #[]] ++ lb) W fun e B => (∃ v, e = .returned v) ∧ ∃ M, J N M B
theorem wpIn_rangeFunc_cells {σ : Type} {F : Fence} {n : Nat} {P : Program} {g : Operand} {ps : Array Tmp} {assign body : Code} {Q : Exit → Act → World → Prop} {a : Act} {w : World}
  (hro : F.round = none) (h1 : 1 ≤ n) {gf : Nat} {lb : Array Value} (hg : a.eval g = .func (.func gf) #[] lb) (hFg : F.fn gf) (eg : ∀ args w, (callFunc gf args).run P w = .ok (.enter gf args) w)
  {N : Nat} {enc : σ → Array Value} {At : Nat → σ → (Nat → Prop) → World → Prop} {w0 : World} (hseq : SeqCells F (n - 1) P gf lb N enc At w0) (hb0 : Below w0.heap.size w0 w) (hps : ∀ s, (enc s).size = ps.size)
  (I : Nat → (Nat → Prop) → World → Prop)
  (hI : ∀ k M M' A B, I k M A → (∀ i, M i → w.heap.size + 2 ≤ i) → w.heap.size + 2 ≤ A.heap.size → Step M A B M' → I k M' B)
  (hIo : ∀ k M A (o o' : Obj), I k M A → A.heap[w.heap.size + 1]? = some o → o.isCells = false → I k M (A.putObj (w.heap.size + 1) o'))
  (hAo : ∀ k s M A (o o' : Obj), At k s M A → (∀ i, M i → w.heap.size + 2 ≤ i) → A.heap[w.heap.size + 1]? = some o → o.isCells = false → At k s M (A.putObj (w.heap.size + 1) o'))
  (h0 : ∀ W1, Below w.heap.size w W1 → I 0 (fun _ => False) W1)
  (Ax : σ → Act → World → Prop) (hAx : ∀ s a' A (o o' : Obj), Ax s a' A → A.heap[w.heap.size + 1]? = some o → o.isCells = false → Ax s a' (A.putObj (w.heap.size + 1) o'))
  (hassign : ∀ l k s M W (K : Act → World → Prop), k < N → I k M W → At k s M W → (∀ a' W', KeepsFrom w.heap.size W W' → (∀ i, M i → w.heap.size + 2 ≤ i) → I k M W' → At k s M W' → Ax s a' W' → K a' W') →
   (∀ i, M i → w.heap.size + 2 ≤ i) → assign.wpIn (F.inRound l) (n - 1 - 1) P (Exit.then K (fun _ _ _ => False)) { tmps := (ps.zip (enc s)).foldl (fun t (p, v) => t.setIfInBounds p v) a.tmps, defers := [] } W)
  (hbody : ∀ l k s M a' W, k < N → (∀ i, M i → w.heap.size + 2 ≤ i) → w.heap.size + 2 ≤ W.heap.size → I k M W → At k s M W → Ax s a' W →
   body.wpIn (F.inRound l) (n - 1 - 1) P (fun x _ W3 => x = .normal ∧ KeepsFrom w.heap.size W W3 ∧ I (k + 1) M W3 ∧ At k s M W3) a' W)
  (hdone : ∀ M W, I N M W → W.heap[w.heap.size]? = some (.deferred (some [])) → Q .normal { a with defers := { target := .collected w.heap.size, args := #[] } :: a.defers } W) :
  (Code.rangeFunc g ps assign body).wpIn F n P Q a w := by
 refine wpIn_rangeFunc ?_
 intro fn hfn
 rw [hro]
 obtain ⟨rec, hrec⟩ : ∃ rec : LoopState → Option Code → Loop, rec = fun st pe => { state := st, pending := pe, fn, tmps := a.tmps, params := ps, assign, body, defers := w.heap.size } := ⟨_, rfl⟩
 obtain ⟨W1, hW1⟩ : ∃ W1, W1 = (w.alloc (.deferred (some []))).alloc (.loop (rec .ready none)) := ⟨_, rfl⟩
 have hz1 : W1.heap.size = w.heap.size + 2 := by rw [hW1]; simp
 have hL1 : W1.heap[w.heap.size + 1]? = some (.loop (rec .ready none)) := by
  rw [hW1]
  have := World.alloc_heap_new (w.alloc (.deferred (some []))) (.loop (rec .ready none))
  rwa [World.size_alloc] at this
 have hK1 : W1.heap[w.heap.size]? = some (.deferred (some [])) := by
  rw [hW1]
  exact (Below.heap_alloc _ _ _ (by simp)).trans (World.alloc_heap_new w _)
 have hb1 : Below w.heap.size w W1 := by
  rw [hW1]
  exact ((Below.refl _ w).alloc (Nat.le_refl _) _).alloc (by simp) _
 refine ⟨w.heap.size + 1, [{ target := .collected w.heap.size, args := #[] }], W1, { target := .fn (.func gf) lb, args := #[.func (.yield (w.heap.size + 1)) #[] #[]] }, W1, gf,
  #[.func (.yield (w.heap.size + 1)) #[] #[]] ++ lb, W1, ?_, ?_, ?_, ?_, fun _ => h1, ?_⟩
 ·rw [hW1, hrec]
  exact run_enterLoop_outer _ _ _ _ _
 ·simp only [resolve, hg]
  simp [go_sem]
 ·intro f' hf'
  simp [Target.leads] at hf'
  subst hf'
  exact hFg
 ·simp [invoke, go_sem, eg]
 refine (hseq (w.heap.size + 1) (fun k M W => (I k M W ∧ (∀ i, M i → w.heap.size + 2 ≤ i) ∧ w.heap.size + 2 ≤ W.heap.size) ∧ W.heap[w.heap.size + 1]? = some (.loop (rec .ready none)) ∧ W.heap[w.heap.size]? = some (.deferred (some []))) W1 (hb0.trans (hb1.mono hb0.size)) ?steps ?round
  ⟨⟨h0 W1 hb1, fun i h => h.elim, by omega⟩, hL1, hK1⟩).mono ?behind
 case steps =>
  rintro k M M' A B ⟨⟨hi, hM, hz⟩, hl, hd⟩ hst
  refine ⟨⟨hI k M M' A B hi hM hz hst, hst.ge hz hM, Nat.le_trans hz hst.size⟩, ?_, ?_⟩
  ·exact (hst.block _ (by omega) (fun h => by have := hM _ h; omega)).trans hl
  ·exact (hst.block _ (by omega) (fun h => by have := hM _ h; omega)).trans hd
 case round =>
  rintro k M s W hk ⟨⟨hi, hM, hz⟩, hl, hd⟩ hat
  have hy := run_yield (P := P) (args := enc s) hl (by rw [hrec]; exact hps s)
  rw [hrec] at hy
  refine ⟨fn, _, assign, body, hy, roundIn_of_wpIn hfn (hassign _ k s M W _ hk hi hat ?_ hM)⟩
  intro a' Wa hkf _ hia hata hax
  have hla := hkf.same _ _ (by omega) hl rfl
  have hda := hkf.same _ _ (Nat.le_refl _) hd rfl
  have hza : w.heap.size + 2 ≤ Wa.heap.size := Nat.le_trans hz hkf.size
  refine ⟨_, run_beginRound hla (by rw [hrec]), ?_⟩
  have hl2 : (Wa.putObj (w.heap.size + 1) (.loop { rec .ready none with state := .busy })).heap[w.heap.size + 1]? = some (.loop { rec .ready none with state := .busy }) := World.putObj_heap_same (by omega)
  have hd2 : (Wa.putObj (w.heap.size + 1) (.loop { rec .ready none with state := .busy })).heap[w.heap.size]? = some (.deferred (some [])) := (World.putObj_heap_other (by omega)).trans hda
  have hz2 : w.heap.size + 2 ≤ (Wa.putObj (w.heap.size + 1) (.loop { rec .ready none with state := .busy })).heap.size := by simpa [World.putObj] using hza
  refine wpIn_mono (hbody _ k s M a' _ hk hM hz2 (hIo k M Wa _ _ hia hla rfl) (hAo k s M Wa _ _ hata hM hla rfl) (hAx s a' Wa _ _ hax hla rfl)) ?_
  rintro e a3 W3 ⟨rfl, hk3, hi3, hat3⟩
  have hl3 := hk3.same _ _ (by omega) hl2 rfl
  have hd3 := hk3.same _ _ (Nat.le_refl _) hd2 rfl
  have hz3 : w.heap.size + 2 ≤ W3.heap.size := Nat.le_trans hz2 hk3.size
  have hr := run_endRound (P := P) none hl3
  refine ⟨_, _, hr, rfl, ⟨⟨hIo _ M W3 _ _ hi3 hl3 rfl, hM, by simpa [World.putObj] using hz3⟩, ?_, ?_⟩, hAo k s M W3 _ _ hat3 hM hl3 rfl⟩
  ·rw [World.putObj_heap_same (by omega), hrec]
   rfl
  ·exact (World.putObj_heap_other (by omega)).trans hd3
 case behind =>
  rintro e W2 ⟨⟨v, rfl⟩, M, ⟨hi, hM, hz⟩, hl, hd⟩
  refine ⟨none, _, by have := run_endLoop (P := P) hl (by rw [hrec]; simp); rw [hrec] at this; exact this, hdone M _ (hIo N M W2 _ _ hi hl rfl) ((World.putObj_heap_other (by omega)).trans hd)⟩
end Go.Proofs.YtlbikgnanabjgaaGreat
