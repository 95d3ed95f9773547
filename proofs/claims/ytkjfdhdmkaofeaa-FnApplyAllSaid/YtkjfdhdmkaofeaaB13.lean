/-
  Open, ParseP, View.
-/
import Derived.Test.YtkjfdhdmkaofeaaB01
import Derived.Test.YtkjfdhdmkaofeaaB06
import Derived.Test.YtkjfdhdmkaofeaaB07
import Derived.Test.YtkjfdhdmkaofeaaB08
import Derived.Test.YtkjfdhdmkaofeaaB12
import Derived.Carry
import Derived.Deep.Slices
import Derived.Deep.Strs
import Derived.OpenShut
import Derived.ProofKit
import Derived.Test.YtkjfdhdmkaofeaaRows
namespace Go.Proofs.Ytkjfdhdmkaofeaa
open Go.ChangeShapes Go.WideShapes Go.ChangeAt Go.RowKit Go.Deep
theorem own : ownKnob Try.prog.godebug = none := by kernel_rfl
section
variable {H : Type} {enc : TypeId × Value → H} {W : World}
set_option maxRecDepth 100000 in
theorem stays_all (hl : laidOutB Try.prog = true) {W' : World} {sp : Nat → Bool} (hb : Below W.heap.size W W') : ∀ (ts : List TypeId) (vs : List Value) (ds : List (DataW H)) (ps : List MemPlace), (∀ t ∈ ts, Try.prog.readableRec t = true ∧ t < Try.prog.types.size) →
  DataW.TrodAll enc Try.prog W 0 (fun _ => true) true ts vs ds ps → (∀ p ∈ ps, p.block < W.heap.size) → (∀ p ∈ ps, sp p.block = true) → DataW.TrodAll enc Try.prog W' 0 sp true ts vs ds ps
 | [], [], [], _, _, h, _, _ => h
 | t :: ts, v :: vs, d :: ds, ps, hr, ⟨p, q, h0, h1, e⟩, hlt, hsp => by
  subst e
  refine ⟨p, q, WideElems.Trod_stays hl (hr t (by simp)).1 (hr t (by simp)).2 h0 (fun x hx => hb.same (hlt x (by simp [hx]))) (fun x hx => hsp x (by simp [hx])), ?_, rfl⟩
  exact stays_all hl hb ts vs ds q (fun t ht => hr t (by simp [ht])) h1 (fun x hx => hlt x (by simp [hx])) (fun x hx => hsp x (by simp [hx]))
set_option maxRecDepth 100000 in
theorem law_post {f : Func} {s : ChangeSpec} {W' : World} {args : Array Value} {ds gs : List (DataW H)} {before : List MemPlace} (hf : f.resultTypes = #[4]) (hv : s.vars = [])
  (hs : ∀ gs, gs = [] → s.fn H (ds ++ gs) = { results := [.lit (.bool true)], args := ds }) (hr : ∀ t ∈ f.params.toList, Try.prog.readableRec t = true ∧ t < Try.prog.types.size)
  (hl : laidOutB Try.prog = true) (hW : DataW.Whole enc Try.prog f.params.toList s.vars false W args.toList ds gs before) (hb : Below W.heap.size W W') : s.post enc Try.prog f false true false false W args (.bool true) W' := by
 have hW0 := hW
 obtain ⟨p, q, hA, hV, rfl, _, _⟩ := hW
 have hlt := fun x hx => hW0.lt x hx
 have hg : gs = [] ∧ q = [] := by
  rw [hv] at hV
  cases gs with
  | nil => exact ⟨rfl, hV⟩
  | cons g gs => exact absurd hV (by simp [DataW.TrodVars])
 obtain ⟨rfl, rfl⟩ := hg
 refine ⟨ds, [], p ++ [], [], p, [], hW0, ?_, ?_, ?_, hb.frame _, fun h => by cases h⟩
 ·rw [hs [] rfl, hf]
  exact ⟨[], [], shut_bool Try.underlying4 _, rfl, rfl⟩
 ·rw [hs [] rfl]
  exact stays_all hl hb _ _ _ _ hr hA (fun x hx => hlt x (by simp [hx])) (fun x hx => by simpa using hlt x (by simp [hx]))
 ·rw [hv, hs [] rfl]
  rfl
end
end Go.Proofs.Ytkjfdhdmkaofeaa
namespace Go.Proofs.Ytkjfdhdmkaofeaa
open Go.ChangeShapes Go.WideShapes Go.ChangeAt Go.RowKit Go.Deep
instance : Inhabited Tm := ⟨.mk 0 0 []⟩
section
variable {H : Type} {enc : TypeId × Value → H} {W : World}
end
end Go.Proofs.Ytkjfdhdmkaofeaa
namespace Go.Proofs.Ytkjfdhdmkaofeaa
open Go.RowKit
theorem SlIn.keep2 {w w' : World} {B : Nat} : ∀ {l : List Tm} {v : Value}, SlIn w B l v → (∀ (p : Addr) (u : Value), B ≤ p.block → w.cell? p = some u → w'.cell? p = some u) → SlIn w' B l v := by
 intro l
 induction l using Tm.ind with
 | h l ih =>
  rintro v ⟨a, cap, b, o, rfl, h1, h2, h3⟩ hk
  refine ⟨a, cap, b, o, rfl, h1, h2, RowAt.of_get fun i hi => ?_⟩
  have hB : B ≤ b := (h2 (by intro e; subst e; simp at hi)).2
  obtain ⟨s, c0, c1, c2, hs⟩ := TmAt_iff.1 (h3.get i hi)
  exact TmAt_iff.2 ⟨s, hk _ _ hB c0, hk _ _ hB c1, hk _ _ hB c2, ih i hi hs hk⟩
noncomputable def mask (w : World) (X : Nat → Prop) : World := { w with heap := w.heap.mapIdx fun i o => @ite _ (X i) (Classical.propDecidable _) (.cells #[] 0 (0, 0)) o }
theorem mask_size (w : World) (X : Nat → Prop) : (mask w X).heap.size = w.heap.size := by simp [mask]
theorem mask_cell {w : World} {X : Nat → Prop} {p : Addr} {u : Value} : (mask w X).cell? p = some u ↔ ¬ X p.block ∧ w.cell? p = some u := by
 have he : (mask w X).heap[p.block]? = (w.heap[p.block]?).map fun o => @ite _ (X p.block) (Classical.propDecidable _) (.cells #[] 0 (0, 0)) o := by simp [mask]
 unfold World.cell?
 rw [he]
 cases hw : w.heap[p.block]? with
 | none => simp
 | some o =>
  by_cases hx : X p.block
  ·simp [hx]
  ·simp [hx]
structure View (u : World) (M : Nat → Prop) (w : World) : Prop where
 rd : ∀ (p : Addr) (x : Value), u.cell? p = some x → w.cell? p = some x
 off : ∀ (p : Addr) (x : Value), u.cell? p = some x → ¬ M p.block
theorem View.below {u w w' : World} {M : Nat → Prop} (h : View u M w) (hb : Below w.heap.size w w') : View u M w' :=
 ⟨fun p x hc => (hb.cell (World.block_lt_of_cell? w p (h.rd p x hc))).trans (h.rd p x hc), h.off⟩
theorem View.set {u w : World} {M : Nat → Prop} (h : View u M w) {q : Addr} (hq : M q.block) (y : Value) : View u M (w.setCell q y) :=
 ⟨fun p x hc => (World.cell?_setCell_other w q p y (fun e => h.off p x hc (by subst e; exact hq))).trans (h.rd p x hc), h.off⟩
theorem View.of_below {u w : World} {M : Nat → Prop} (h : Below u.heap.size u w) (hM : ∀ i, M i → u.heap.size ≤ i) : View u M w :=
 ⟨fun p x hc => (h.cell (World.block_lt_of_cell? u p hc)).trans hc, fun p x hc hm => by have := World.block_lt_of_cell? u p hc; have := hM _ hm; omega⟩
theorem View.mask (w : World) (M : Nat → Prop) : View (mask w M) M w := ⟨fun _ _ h => (mask_cell.1 h).2, fun _ _ h => (mask_cell.1 h).1⟩
theorem View.sl {u w : World} {M : Nat → Prop} {l : List Tm} {v : Value} (h : View u M w) (hs : SlIn u 0 l v) : SlIn w 0 l v := hs.keep2 fun p x _ hc => h.rd p x hc
def SlX (w : World) (X : Nat → Prop) (l : List Tm) (v : Value) : Prop := SlIn (Go.Proofs.Ytkjfdhdmkaofeaa.mask w X) 0 l v
theorem SlX.sl {w : World} {X : Nat → Prop} {l : List Tm} {v : Value} (h : SlX w X l v) : SlIn w 0 l v := (View.mask w X).sl h
theorem SlX.of_view {u w : World} {X : Nat → Prop} {l : List Tm} {v : Value} (h : SlIn u 0 l v) (hv : View u X w) : SlX w X l v := h.keep2 fun p x _ hc => mask_cell.2 ⟨hv.off p x hc, hv.rd p x hc⟩
theorem SlX.to {w w' : World} {X X' : Nat → Prop} {l : List Tm} {v : Value} (h : SlX w X l v) (hk : ∀ (p : Addr) (u : Value), ¬ X p.block → w.cell? p = some u → ¬ X' p.block ∧ w'.cell? p = some u) : SlX w' X' l v :=
 h.keep2 fun p u _ hc => mask_cell.2 (hk p u (mask_cell.1 hc).1 (mask_cell.1 hc).2)
theorem SlX.of_sl {w : World} {X : Nat → Prop} {B : Nat} {l : List Tm} {v : Value} (h : SlIn w B l v) (hX : ∀ i, X i → i < B) : SlX w X l v :=
 SlIn.mono (h.keep2 fun p u hp hc => mask_cell.2 ⟨fun hx => by have := hX _ hx; omega, hc⟩) (Nat.zero_le _)
theorem SlX.below {w w' : World} {X : Nat → Prop} {l : List Tm} {v : Value} (h : SlX w X l v) (hb : Below w.heap.size w w') : SlX w' X l v :=
 SlX.of_view h ((View.mask w X).below hb)
theorem SlX.set {w : World} {X : Nat → Prop} {l : List Tm} {v : Value} (h : SlX w X l v) {q : Addr} (hq : X q.block) (y : Value) : SlX (w.setCell q y) X l v :=
 SlX.of_view h ((View.mask w X).set hq y)
theorem SlX.form {w : World} {X : Nat → Prop} {l : List Tm} {v : Value} (h : SlX w X l v) : ∃ a cap, v = .slice a l.length cap := SlIn.form h
theorem SlX.nil (w : World) (X : Nat → Prop) (a : Option Addr) (cap : Nat) : SlX w X [] (.slice a 0 cap) := SlIn.nil _ _ _ _
theorem SlX.open {w : World} {X : Nat → Prop} {l : List Tm} {v : Value} (h : SlX w X l v) : ∃ (a : Option Addr) (cap b o : Nat), v = .slice a l.length cap ∧ l.length ≤ maxLen ∧ (l ≠ [] → a = some ⟨b, o, none⟩ ∧ ¬ X b ∧ b < w.heap.size) ∧
  ∀ i (hi : i < l.length), ∃ s, w.cell? ⟨b, o + i * 3, none⟩ = some (.int .i64 l[i].kind) ∧ w.cell? ⟨b, o + i * 3 + 1, none⟩ = some (.int .i64 l[i].num) ∧ w.cell? ⟨b, o + i * 3 + 2, none⟩ = some s ∧ SlX w X l[i].kids s := by
 obtain ⟨a, cap, b, o, rfl, h1, h2, h3⟩ := SlIn.open h
 refine ⟨a, cap, b, o, rfl, h1, fun hn => ⟨(h2 hn).1, ?_, by have := (h2 hn).2.2; rwa [mask_size] at this⟩, fun i hi => ?_⟩
 ·obtain ⟨s, c0, _⟩ := h3 0 (List.length_pos_iff.2 hn)
  exact (mask_cell.1 c0).1
 ·obtain ⟨s, c0, c1, c2, hs⟩ := h3 i hi
  exact ⟨s, (mask_cell.1 c0).2, (mask_cell.1 c1).2, (mask_cell.1 c2).2, hs⟩
theorem SlX.mk {w : World} {X : Nat → Prop} {l : List Tm} {b o cap : Nat} (hl : l.length ≤ maxLen) (hb : ¬ X b) (h : ∀ i (hi : i < l.length), ∃ s, w.cell? ⟨b, o + i * 3, none⟩ = some (.int .i64 l[i].kind) ∧ w.cell? ⟨b, o + i * 3 + 1, none⟩ = some (.int .i64 l[i].num) ∧ w.cell? ⟨b, o + i * 3 + 2, none⟩ = some s ∧ SlX w X l[i].kids s) :
  SlX w X l (.slice (some ⟨b, o, none⟩) l.length cap) :=
 ⟨_, cap, b, o, rfl, hl, fun _ => ⟨rfl, Nat.zero_le _⟩, RowAt.of_get fun i hi => by
  obtain ⟨s, c0, c1, c2, hs⟩ := h i hi
  exact TmAt_iff.2 ⟨s, mask_cell.2 ⟨hb, c0⟩, mask_cell.2 ⟨hb, c1⟩, mask_cell.2 ⟨hb, c2⟩, hs⟩⟩
end Go.Proofs.Ytkjfdhdmkaofeaa
namespace Go.Proofs.Ytkjfdhdmkaofeaa
def preKind (b : Nat) : Int := if b = 33 then 11 else if b = 94 then 15 else if b = 95 then 16 else 8
def roundKind (b : Nat) : Int := if b = 62 then 3 else if b = 42 then 13 else if b = 32 then 5 else 0
def blockKind (b : Nat) : Int := if b = 60 then 9 else if b = 123 then 10 else if b = 124 then 14 else if b = 64 then 12 else 0
def blockLast (b : Nat) : Nat := if b = 123 then 125 else if b = 124 then 124 else 62
def byteAt (s : ByteArray) (a : Nat) : Nat := if h : a < s.size then s[a].toNat else 0
theorem byteAt_eq {s : ByteArray} {a : Nat} (h : a < s.size) : byteAt s a = s[a].toNat := dif_pos h
def ptSer (s : ByteArray) (f : Nat → Option (Tm × Nat)) (last : Nat) : Nat → Nat → Option (List Tm × Nat)
 | 0, a => some ([], a)
 | m + 1, a => match f a with
  | none => none
  | some x => if x.2 < s.size ∧ byteAt s x.2 = (if m = 0 then last else 44) then (ptSer s f last m (x.2 + 1)).map fun y => (x.1 :: y.1, y.2) else none
def ptRound (s : ByteArray) (f : Nat → Option (Tm × Nat)) (a : Nat) : Option (Tm × Nat) :=
 match f a with
 | none => none
 | some x => if x.2 < s.size then (match f (x.2 + 1) with
  | none => none
  | some y => if roundKind (byteAt s x.2) ≠ 0 ∧ y.2 < s.size ∧ byteAt s y.2 = 41 then some (.mk (roundKind (byteAt s x.2)) 0 [x.1, y.1], y.2 + 1) else none) else none
def ptLam (s : ByteArray) (f : Nat → Option (Tm × Nat)) (a : Nat) : Option (Tm × Nat) :=
 match f a with
 | none => none
 | some x => if x.2 < s.size ∧ byteAt s x.2 = 93 then (f (x.2 + 1)).map fun y => (.mk 4 0 [x.1, y.1], y.2) else none
def ptBlock (s : ByteArray) (f : Nat → Option (Tm × Nat)) (a : Nat) : Option (Tm × Nat) :=
 if blockKind (byteAt s a) = 0 then none else
 if byteAt s a = 64 ∧ ¬ byteAt s (a + 1) = 60 then none else
 (ptSer s f (blockLast (byteAt s a)) (if blockKind (byteAt s a) = 9 then 4 else 3) (if byteAt s a = 64 then a + 2 else a + 1)).map fun y => (.mk (blockKind (byteAt s a)) 0 y.1, y.2)
def pt (s : ByteArray) : Nat → Nat → Option (Tm × Nat)
 | 0, _ => none
 | d + 1, a => if a < s.size then
   if byteAt s a = 35 then (ptNum s (a + 1) 2).map fun x => (.mk 1 x.1 [], x.2)
   else if byteAt s a = 42 then (ptNum s (a + 1) 1).map fun x => (.mk 2 x.1 [], x.2)
   else if byteAt s a = 78 then some (.mk 6 0 [], a + 1)
   else if byteAt s a = 48 then some (.mk 7 0 [], a + 1)
   else if byteAt s a = 43 ∨ byteAt s a = 33 ∨ byteAt s a = 94 ∨ byteAt s a = 95 then (pt s d (a + 1)).map fun x => (.mk (preKind (byteAt s a)) 0 [x.1], x.2)
   else if byteAt s a = 40 then ptRound s (pt s d) (a + 1)
   else if byteAt s a = 91 then ptLam s (pt s d) (a + 1)
   else ptBlock s (pt s d) a
  else none
theorem ptNum_le {s : ByteArray} {a d : Nat} {x : Nat × Nat} (ha : a ≤ s.size) (h : ptNum s a d = some x) : x.2 ≤ s.size := by
 unfold ptNum at h
 split at h
 ·simp only [Option.some.injEq] at h
  rw [← h]
  exact digRun_in s d a ha
 ·cases h
end Go.Proofs.Ytkjfdhdmkaofeaa
