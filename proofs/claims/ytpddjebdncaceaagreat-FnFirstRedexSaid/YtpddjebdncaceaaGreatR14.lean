/-
  Red, FindP, ParseP, StepP, Plc, View.
-/
import Derived.Test.YtpddjebdncaceaaGreatR02
import Derived.Test.YtpddjebdncaceaaGreatR06
import Derived.Test.YtpddjebdncaceaaGreatR09
import Derived.Test.YtpddjebdncaceaaGreatR10
import Derived.Test.YtpddjebdncaceaaGreatR11
import Derived.Test.YtpddjebdncaceaaGreatR13
namespace Go.Proofs.YtpddjebdncaceaaGreat
open Go.RowKit
theorem SlIn.keep2 {w w' : World} {B : Nat} : ∀ {l : List Tm} {v : Value}, SlIn w B l v → (∀ (p : Addr) (u : Value), B ≤ p.block → w.cell? p = some u → w'.cell? p = some u) → SlIn w' B l v := by
 intro l
 induction l using Tm.ind with
 | h l ih =>
  rintro v ⟨a, cap, b, o, rfl, h1, h2, h3⟩ hk
  refine ⟨a, cap, b, o, rfl, h1, h2, RowAt.of_get fun i hi => ?_⟩
  have hB : B ≤ b := (h2 (by intro e; subst e; simp at hi)).2
  obtain ⟨s, c0, c1, c2, hs⟩ := TmAt_iff.1 (h3.get i hi)
  exact TmAt_iff.2 ⟨s, hk _ _ hB c0, hk _ _ hB c1, hk _ _ hB c2, ih i hi hs hk⟩
noncomputable def mask (w : World) (X : Nat → Prop) : World := { w with heap := w.heap.mapIdx fun i o => @ite _ (X i) (Classical.propDecidable _) (.cells #[] 0 (0, 0)) o }
theorem mask_size (w : World) (X : Nat → Prop) : (mask w X).heap.size = w.heap.size := by simp [mask]
theorem mask_cell {w : World} {X : Nat → Prop} {p : Addr} {u : Value} : (mask w X).cell? p = some u ↔ ¬ X p.block ∧ w.cell? p = some u := by
 have he : (mask w X).heap[p.block]? = (w.heap[p.block]?).map fun o => @ite _ (X p.block) (Classical.propDecidable _) (.cells #[] 0 (0, 0)) o := by simp [mask]
 unfold World.cell?
 rw [he]
 cases hw : w.heap[p.block]? with
 | none => simp
 | some o =>
  by_cases hx : X p.block
  ·simp [hx]
  ·simp [hx]
structure View (u : World) (M : Nat → Prop) (w : World) : Prop where
 rd : ∀ (p : Addr) (x : Value), u.cell? p = some x → w.cell? p = some x
 off : ∀ (p : Addr) (x : Value), u.cell? p = some x → ¬ M p.block
theorem View.step {u w w' : World} {M M' : Nat → Prop} (h : View u M w) (hs : Step M w w' M') : View u M' w' :=
 ⟨fun p x hc => (hs.cell (World.block_lt_of_cell? w p (h.rd p x hc)) (h.off p x hc)).trans (h.rd p x hc), fun p x hc hm => h.off p x hc (hs.grow _ (World.block_lt_of_cell? w p (h.rd p x hc)) hm)⟩
theorem View.below {u w w' : World} {M : Nat → Prop} (h : View u M w) (hb : Below w.heap.size w w') : View u M w' :=
 ⟨fun p x hc => (hb.cell (World.block_lt_of_cell? w p (h.rd p x hc))).trans (h.rd p x hc), h.off⟩
theorem View.set {u w : World} {M : Nat → Prop} (h : View u M w) {q : Addr} (hq : M q.block) (y : Value) : View u M (w.setCell q y) :=
 ⟨fun p x hc => (World.cell?_setCell_other w q p y (fun e => h.off p x hc (by subst e; exact hq))).trans (h.rd p x hc), h.off⟩
theorem View.of_below {u w : World} {M : Nat → Prop} (h : Below u.heap.size u w) (hM : ∀ i, M i → u.heap.size ≤ i) : View u M w :=
 ⟨fun p x hc => (h.cell (World.block_lt_of_cell? u p hc)).trans hc, fun p x hc hm => by have := World.block_lt_of_cell? u p hc; have := hM _ hm; omega⟩
theorem View.mask (w : World) (M : Nat → Prop) : View (mask w M) M w := ⟨fun _ _ h => (mask_cell.1 h).2, fun _ _ h => (mask_cell.1 h).1⟩
theorem View.sl {u w : World} {M : Nat → Prop} {l : List Tm} {v : Value} (h : View u M w) (hs : SlIn u 0 l v) : SlIn w 0 l v := hs.keep2 fun p x _ hc => h.rd p x hc
def SlX (w : World) (X : Nat → Prop) (l : List Tm) (v : Value) : Prop := SlIn (Go.Proofs.YtpddjebdncaceaaGreat.mask w X) 0 l v
theorem SlX.sl {w : World} {X : Nat → Prop} {l : List Tm} {v : Value} (h : SlX w X l v) : SlIn w 0 l v := (View.mask w X).sl h
theorem SlX.of_view {u w : World} {X : Nat → Prop} {l : List Tm} {v : Value} (h : SlIn u 0 l v) (hv : View u X w) : SlX w X l v := h.keep2 fun p x _ hc => mask_cell.2 ⟨hv.off p x hc, hv.rd p x hc⟩
theorem SlX.to {w w' : World} {X X' : Nat → Prop} {l : List Tm} {v : Value} (h : SlX w X l v) (hk : ∀ (p : Addr) (u : Value), ¬ X p.block → w.cell? p = some u → ¬ X' p.block ∧ w'.cell? p = some u) : SlX w' X' l v :=
 h.keep2 fun p u _ hc => mask_cell.2 (hk p u (mask_cell.1 hc).1 (mask_cell.1 hc).2)
theorem SlX.of_sl {w : World} {X : Nat → Prop} {B : Nat} {l : List Tm} {v : Value} (h : SlIn w B l v) (hX : ∀ i, X i → i < B) : SlX w X l v :=
 SlIn.mono (h.keep2 fun p u hp hc => mask_cell.2 ⟨fun hx => by have := hX _ hx; omega, hc⟩) (Nat.zero_le _)
theorem SlX.below {w w' : World} {X : Nat → Prop} {l : List Tm} {v : Value} (h : SlX w X l v) (hb : Below w.heap.size w w') : SlX w' X l v :=
 SlX.of_view h ((View.mask w X).below hb)
theorem SlX.set {w : World} {X : Nat → Prop} {l : List Tm} {v : Value} (h : SlX w X l v) {q : Addr} (hq : X q.block) (y : Value) : SlX (w.setCell q y) X l v :=
 SlX.of_view h ((View.mask w X).set hq y)
theorem SlX.form {w : World} {X : Nat → Prop} {l : List Tm} {v : Value} (h : SlX w X l v) : ∃ a cap, v = .slice a l.length cap := SlIn.form h
theorem SlX.nil (w : World) (X : Nat → Prop) (a : Option Addr) (cap : Nat) : SlX w X [] (.slice a 0 cap) := SlIn.nil _ _ _ _
theorem SlX.open {w : World} {X : Nat → Prop} {l : List Tm} {v : Value} (h : SlX w X l v) : ∃ (a : Option Addr) (cap b o : Nat), v = .slice a l.length cap ∧ l.length ≤ maxLen ∧ (l ≠ [] → a = some ⟨b, o, none⟩ ∧ ¬ X b ∧ b < w.heap.size) ∧
  ∀ i (hi : i < l.length), ∃ s, w.cell? ⟨b, o + i * 3, none⟩ = some (.int .i64 l[i].kind) ∧ w.cell? ⟨b, o + i * 3 + 1, none⟩ = some (.int .i64 l[i].num) ∧ w.cell? ⟨b, o + i * 3 + 2, none⟩ = some s ∧ SlX w X l[i].kids s := by
 obtain ⟨a, cap, b, o, rfl, h1, h2, h3⟩ := SlIn.open h
 refine ⟨a, cap, b, o, rfl, h1, fun hn => ⟨(h2 hn).1, ?_, by have := (h2 hn).2.2; rwa [mask_size] at this⟩, fun i hi => ?_⟩
 ·obtain ⟨s, c0, _⟩ := h3 0 (List.length_pos_iff.2 hn)
  exact (mask_cell.1 c0).1
 ·obtain ⟨s, c0, c1, c2, hs⟩ := h3 i hi
  exact ⟨s, (mask_cell.1 c0).2, (mask_cell.1 c1).2, (mask_cell.1 c2).2, hs⟩
theorem SlX.mk {w : World} {X : Nat → Prop} {l : List Tm} {b o cap : Nat} (hl : l.length ≤ maxLen) (hb : ¬ X b) (h : ∀ i (hi : i < l.length), ∃ s, w.cell? ⟨b, o + i * 3, none⟩ = some (.int .i64 l[i].kind) ∧ w.cell? ⟨b, o + i * 3 + 1, none⟩ = some (.int .i64 l[i].num) ∧ w.cell? ⟨b, o + i * 3 + 2, none⟩ = some s ∧ SlX w X l[i].kids s) :
  SlX w X l (.slice (some ⟨b, o, none⟩) l.length cap) :=
 ⟨_, cap, b, o, rfl, hl, fun _ => ⟨rfl, Nat.zero_le _⟩, RowAt.of_get fun i hi => by
  obtain ⟨s, c0, c1, c2, hs⟩ := h i hi
  exact TmAt_iff.2 ⟨s, mask_cell.2 ⟨hb, c0⟩, mask_cell.2 ⟨hb, c1⟩, mask_cell.2 ⟨hb, c2⟩, hs⟩⟩
end Go.Proofs.YtpddjebdncaceaaGreat
namespace Go.Proofs.YtpddjebdncaceaaGreat
open Go.RowKit
def mainIx (k : Int) : Int := if k = 5 ∨ k = 15 ∨ k = 16 then 0 else if k = 9 then 3 else if k = 12 then 1 else -1
def redexK (k m : Int) : Int := if k = 5 ∧ m = 4 then 1 else if k = 9 ∧ m = 7 then 2 else if k = 9 ∧ m = 8 then 3 else if k = 12 ∧ m = 11 then 4 else if k = 15 ∧ m = 14 then 5 else if k = 16 ∧ m = 14 then 6 else 0
def kidK (l : List Tm) (i : Nat) : Int := (l.getD i zeroT).kind
def Tm.redex (t : Tm) : Int := redexK t.kind (kidK t.kids (mainIx t.kind).toNat)
theorem kidK_eq {l : List Tm} {i : Nat} (h : i < l.length) : kidK l i = l[i].kind := by
 unfold kidK
 rw [List.getD_eq_getElem?_getD, List.getElem?_eq_getElem h]
 rfl
theorem main_any (k : Int) (w : World) : Calls Tryz.prog 99 #[.int .i64 k] w fun e w' => e = .returned (.tuple #[.int .i64 (if mainIx k = -1 then 0 else mainIx k), .bool (!decide (mainIx k = -1))]) ∧ w = w' := by
 obtain ⟨post, hpost⟩ : ∃ post : Ending → World → Prop, post = fun e w' => e = .returned (.tuple #[.int .i64 (if mainIx k = -1 then 0 else mainIx k), .bool (!decide (mainIx k = -1))]) ∧ w = w' := ⟨_, rfl⟩
 rw [← hpost]
 have HP : Hid (∀ (i : Int) (b : Bool), i = (if mainIx k = -1 then 0 else mainIx k) → b = (!decide (mainIx k = -1)) → post (.returned (.tuple #[.int .i64 i, .bool b])) w) := tuck fun i b h1 h2 => by rw [hpost, h1, h2]; exact ⟨rfl, rfl⟩
 clear hpost
 by_cases h5 : k = 5
 ·subst h5
  have HQ := tuck (HP.out 0 true (by decide) (by decide))
  clear HP
  go_enter Tryz.func99, Tryz.ntmps99
  go_wp2_with fail
  exact HQ.out
 by_cases h15 : k = 15
 ·subst h15
  have HQ := tuck (HP.out 0 true (by decide) (by decide))
  clear HP
  go_enter Tryz.func99, Tryz.ntmps99
  go_wp2_with fail
  exact HQ.out
 by_cases h16 : k = 16
 ·subst h16
  have HQ := tuck (HP.out 0 true (by decide) (by decide))
  clear HP
  go_enter Tryz.func99, Tryz.ntmps99
  go_wp2_with fail
  exact HQ.out
 by_cases h9 : k = 9
 ·subst h9
  have HQ := tuck (HP.out 3 true (by decide) (by decide))
  clear HP
  go_enter Tryz.func99, Tryz.ntmps99
  go_wp2_with fail
  exact HQ.out
 by_cases h12 : k = 12
 ·subst h12
  have HQ := tuck (HP.out 1 true (by decide) (by decide))
  clear HP
  go_enter Tryz.func99, Tryz.ntmps99
  go_wp2_with fail
  exact HQ.out
 have g5 : (k == 5) = false := by simpa using h5
 have g15 : (k == 15) = false := by simpa using h15
 have g16 : (k == 16) = false := by simpa using h16
 have g9 : (k == 9) = false := by simpa using h9
 have g12 : (k == 12) = false := by simpa using h12
 have hm : mainIx k = -1 := by unfold mainIx; (repeat' split) <;> omega
 have HQ := tuck (HP.out 0 false (by rw [hm]; rfl) (by rw [hm]; rfl))
 clear HP hm
 go_enter Tryz.func99, Tryz.ntmps99
 go_wp2_with fail
 exact HQ.out
set_option maxRecDepth 100000 in
set_option maxHeartbeats 1600000 in
theorem redS_any (t : Tm) (ht : t.rootOk) (w : World) (s : Value) (hs : SlIn w 0 t.kids s) : Calls Tryz.prog 47 #[.agg #[.int .i64 t.kind, .int .i64 t.num, s]] w (IntPost w t.redex) := by
 obtain ⟨a, cap, b, o, rfl, hl, hp, hc⟩ := hs.open
 have ha : arity t.kind = t.kids.length := ht.1
 have HW : Hid (∀ r : Int, r = t.redex → ∀ n : Nat, IntPost w t.redex (.returned (.int .i64 r)) (w.alloc (.cells #[.int .i64 t.kind, .int .i64 t.num, .slice a t.kids.length cap] 34))) := tuck fun r h _ => ⟨by rw [h], below1 _ _⟩
 have HWd : Hid (∀ r : Int, r = t.redex → IntPost w t.redex (.returned (.int .i64 r)) (w.alloc (.cells #[.int .i64 t.kind, .int .i64 t.num, .slice a t.kids.length cap] 34)).drew) := tuck fun r h => ⟨by rw [h], (below1 _ _).drew⟩
 have hunf : t.redex = redexK t.kind (kidK t.kids (mainIx t.kind).toNat) := rfl
 clear hs ht
 generalize IntPost w t.redex = post at *
 generalize t.redex = R at *
 generalize t.num = n at *
 by_cases hk : t.kind = 5
 ·rw [hk] at ha hunf HW HWd ⊢
  have har : arity 5 = 2 := by decide
  have hL : t.kids.length = 2 := by omega
  obtain ⟨rfl, _, hbw⟩ := hp (by intro e; rw [e] at hL; simp at hL)
  obtain ⟨s', c0, -, -, -⟩ := hc 0 (by omega)
  have hkid := kidK_eq (l := t.kids) (i := 0) (by omega)
  rw [show (mainIx 5).toNat = 0 by decide, hkid] at hunf
  generalize t.kids[0].kind = m at *
  rw [hL] at HW HWd ⊢
  have c1 : w.cell? ⟨b, o + 0, none⟩ = some (.int .i64 m) := c0
  rw [Nat.add_zero] at c1
  clear hc hp c0 hkid hl ha hk hL har
  by_cases hm4 : m = 4
  ·subst hm4
   have hr : Hid ((1 : Int) = R) := tuck (by rw [hunf]; decide)
   clear hunf
   go_enter Tryz.func47, Tryz.ntmps47
   go_wp2_with fail
   exact HW.out _ hr.out 0
  have hr : Hid ((0 : Int) = R) := tuck (by rw [hunf]; unfold redexK; (repeat' split) <;> omega)
  have g4 : (m == 4) = false := by simpa using hm4
  clear hunf
  go_enter Tryz.func47, Tryz.ntmps47
  go_wp2_with fail
  exact HW.out _ hr.out 0
 by_cases hk : t.kind = 9
 ·rw [hk] at ha hunf HW HWd ⊢
  have har : arity 9 = 4 := by decide
  have hL : t.kids.length = 4 := by omega
  obtain ⟨rfl, _, hbw⟩ := hp (by intro e; rw [e] at hL; simp at hL)
  obtain ⟨s', c0, -, -, -⟩ := hc 3 (by omega)
  have hkid := kidK_eq (l := t.kids) (i := 3) (by omega)
  rw [show (mainIx 9).toNat = 3 by decide, hkid] at hunf
  generalize t.kids[3].kind = m at *
  rw [hL] at HW HWd ⊢
  have c1 : w.cell? ⟨b, o + 9, none⟩ = some (.int .i64 m) := c0
  skip
  clear hc hp c0 hkid hl ha hk hL har
  by_cases hm7 : m = 7
  ·subst hm7
   have hr : Hid ((2 : Int) = R) := tuck (by rw [hunf]; decide)
   clear hunf
   go_enter Tryz.func47, Tryz.ntmps47
   go_wp2_with fail
   exact HW.out _ hr.out 0
  by_cases hm8 : m = 8
  ·subst hm8
   have hr : Hid ((3 : Int) = R) := tuck (by rw [hunf]; decide)
   clear hunf
   go_enter Tryz.func47, Tryz.ntmps47
   go_wp2_with fail
   exact HW.out _ hr.out 0
  have hr : Hid ((0 : Int) = R) := tuck (by rw [hunf]; unfold redexK; (repeat' split) <;> omega)
  have g7 : (m == 7) = false := by simpa using hm7
  have g8 : (m == 8) = false := by simpa using hm8
  clear hunf
  go_enter Tryz.func47, Tryz.ntmps47
  go_wp2_with fail
  exact HW.out _ hr.out 0
 by_cases hk : t.kind = 12
 ·rw [hk] at ha hunf HW HWd ⊢
  have har : arity 12 = 3 := by decide
  have hL : t.kids.length = 3 := by omega
  obtain ⟨rfl, _, hbw⟩ := hp (by intro e; rw [e] at hL; simp at hL)
  obtain ⟨s', c0, -, -, -⟩ := hc 1 (by omega)
  have hkid := kidK_eq (l := t.kids) (i := 1) (by omega)
  rw [show (mainIx 12).toNat = 1 by decide, hkid] at hunf
  generalize t.kids[1].kind = m at *
  rw [hL] at HW HWd ⊢
  have c1 : w.cell? ⟨b, o + 3, none⟩ = some (.int .i64 m) := c0
  skip
  clear hc hp c0 hkid hl ha hk hL har
  by_cases hm11 : m = 11
  ·subst hm11
   have hr : Hid ((4 : Int) = R) := tuck (by rw [hunf]; decide)
   clear hunf
   go_enter Tryz.func47, Tryz.ntmps47
   go_wp2_with fail
   exact HW.out _ hr.out 0
  have hr : Hid ((0 : Int) = R) := tuck (by rw [hunf]; unfold redexK; (repeat' split) <;> omega)
  have g11 : (m == 11) = false := by simpa using hm11
  clear hunf
  go_enter Tryz.func47, Tryz.ntmps47
  go_wp2_with fail
  exact HW.out _ hr.out 0
 by_cases hk : t.kind = 15
 ·rw [hk] at ha hunf HW HWd ⊢
  have har : arity 15 = 1 := by decide
  have hL : t.kids.length = 1 := by omega
  obtain ⟨rfl, _, hbw⟩ := hp (by intro e; rw [e] at hL; simp at hL)
  obtain ⟨s', c0, -, -, -⟩ := hc 0 (by omega)
  have hkid := kidK_eq (l := t.kids) (i := 0) (by omega)
  rw [show (mainIx 15).toNat = 0 by decide, hkid] at hunf
  generalize t.kids[0].kind = m at *
  rw [hL] at HW HWd ⊢
  have c1 : w.cell? ⟨b, o + 0, none⟩ = some (.int .i64 m) := c0
  rw [Nat.add_zero] at c1
  clear hc hp c0 hkid hl ha hk hL har
  by_cases hm14 : m = 14
  ·subst hm14
   have hr : Hid ((5 : Int) = R) := tuck (by rw [hunf]; decide)
   clear hunf
   go_enter Tryz.func47, Tryz.ntmps47
   go_wp2_with fail
   exact HW.out _ hr.out 0
  have hr : Hid ((0 : Int) = R) := tuck (by rw [hunf]; unfold redexK; (repeat' split) <;> omega)
  have g14 : (m == 14) = false := by simpa using hm14
  clear hunf
  go_enter Tryz.func47, Tryz.ntmps47
  go_wp2_with fail
  exact HW.out _ hr.out 0
 by_cases hk : t.kind = 16
 ·rw [hk] at ha hunf HW HWd ⊢
  have har : arity 16 = 1 := by decide
  have hL : t.kids.length = 1 := by omega
  obtain ⟨rfl, _, hbw⟩ := hp (by intro e; rw [e] at hL; simp at hL)
  obtain ⟨s', c0, -, -, -⟩ := hc 0 (by omega)
  have hkid := kidK_eq (l := t.kids) (i := 0) (by omega)
  rw [show (mainIx 16).toNat = 0 by decide, hkid] at hunf
  generalize t.kids[0].kind = m at *
  rw [hL] at HW HWd ⊢
  have c1 : w.cell? ⟨b, o + 0, none⟩ = some (.int .i64 m) := c0
  rw [Nat.add_zero] at c1
  clear hc hp c0 hkid hl ha hk hL har
  by_cases hm14 : m = 14
  ·subst hm14
   have hr : Hid ((6 : Int) = R) := tuck (by rw [hunf]; decide)
   clear hunf
   go_enter Tryz.func47, Tryz.ntmps47
   go_wp2_with fail
   exact HW.out _ hr.out 0
  have hr : Hid ((0 : Int) = R) := tuck (by rw [hunf]; unfold redexK; (repeat' split) <;> omega)
  have g14 : (m == 14) = false := by simpa using hm14
  clear hunf
  go_enter Tryz.func47, Tryz.ntmps47
  go_wp2_with fail
  exact HW.out _ hr.out 0
 have hr : Hid ((0 : Int) = R) := tuck (by rw [hunf]; unfold redexK; (repeat' split) <;> omega)
 have g5 : (t.kind == 5) = false := by simpa using ‹¬ t.kind = 5›
 have g9 : (t.kind == 9) = false := by simpa using ‹¬ t.kind = 9›
 have g12 : (t.kind == 12) = false := by simpa using ‹¬ t.kind = 12›
 have g15 : (t.kind == 15) = false := by simpa using ‹¬ t.kind = 15›
 have g16 : (t.kind == 16) = false := by simpa using ‹¬ t.kind = 16›
 clear hunf hc hp ha hl
 generalize t.kind = k at *
 generalize t.kids.length = L at *
 go_enter Tryz.func47, Tryz.ntmps47
 go_wp2_with fail
 exact HW.out _ hr.out 0
set_option maxRecDepth 100000 in
set_option maxHeartbeats 1600000 in
theorem redI_any (t : Tm) (ht : t.rootOk) (w : World) (s : Value) (hs : SlIn w 0 t.kids s) : Calls Tryz.prog 61 #[.agg #[.int .i64 t.kind, .int .i64 t.num, s]] w (IntPost w t.redex) := by
 obtain ⟨a, cap, b, o, rfl, hl, hp, hc⟩ := hs.open
 have ha : arity t.kind = t.kids.length := ht.1
 have HW : Hid (∀ r : Int, r = t.redex → ∀ n : Nat, IntPost w t.redex (.returned (.int .i64 r)) (w.alloc (.cells #[.int .i64 t.kind, .int .i64 t.num, .slice a t.kids.length cap] 34))) := tuck fun r h _ => ⟨by rw [h], below1 _ _⟩
 have HWd : Hid (∀ r : Int, r = t.redex → IntPost w t.redex (.returned (.int .i64 r)) (w.alloc (.cells #[.int .i64 t.kind, .int .i64 t.num, .slice a t.kids.length cap] 34)).drew) := tuck fun r h => ⟨by rw [h], (below1 _ _).drew⟩
 have hunf : t.redex = redexK t.kind (kidK t.kids (mainIx t.kind).toNat) := rfl
 clear hs ht
 generalize IntPost w t.redex = post at *
 generalize t.redex = R at *
 generalize t.num = n at *
 by_cases hk : t.kind = 5
 ·rw [hk] at ha hunf HW HWd ⊢
  have har : arity 5 = 2 := by decide
  have hL : t.kids.length = 2 := by omega
  obtain ⟨rfl, _, hbw⟩ := hp (by intro e; rw [e] at hL; simp at hL)
  obtain ⟨s', c0, -, -, -⟩ := hc 0 (by omega)
  have hkid := kidK_eq (l := t.kids) (i := 0) (by omega)
  rw [show (mainIx 5).toNat = 0 by decide, hkid] at hunf
  generalize t.kids[0].kind = m at *
  rw [hL] at HW HWd ⊢
  have c1 : w.cell? ⟨b, o + 0, none⟩ = some (.int .i64 m) := c0
  rw [Nat.add_zero] at c1
  clear hc hp c0 hkid hl ha hk hL har
  by_cases hm4 : m = 4
  ·subst hm4
   have hr : Hid ((1 : Int) = R) := tuck (by rw [hunf]; decide)
   clear hunf
   go_enter Tryz.func61, Tryz.ntmps61
   go_wp2_with fail
   refine (main_any 5 _).mono ?_
   rintro e w1 ⟨rfl, rfl⟩
   rw [show mainIx 5 = 0 by decide]
   go_wp2_with fail
   go_region
   go_wp2_with fail
   exact HWd.out _ hr.out
  have hr : Hid ((0 : Int) = R) := tuck (by rw [hunf]; unfold redexK; (repeat' split) <;> omega)
  have g4 : (m == 4) = false := by simpa using hm4
  clear hunf
  go_enter Tryz.func61, Tryz.ntmps61
  go_wp2_with fail
  refine (main_any 5 _).mono ?_
  rintro e w1 ⟨rfl, rfl⟩
  rw [show mainIx 5 = 0 by decide]
  go_wp2_with fail
  go_region
  go_wp2_with fail
  exact HWd.out _ hr.out
 by_cases hk : t.kind = 9
 ·rw [hk] at ha hunf HW HWd ⊢
  have har : arity 9 = 4 := by decide
  have hL : t.kids.length = 4 := by omega
  obtain ⟨rfl, _, hbw⟩ := hp (by intro e; rw [e] at hL; simp at hL)
  obtain ⟨s', c0, -, -, -⟩ := hc 3 (by omega)
  have hkid := kidK_eq (l := t.kids) (i := 3) (by omega)
  rw [show (mainIx 9).toNat = 3 by decide, hkid] at hunf
  generalize t.kids[3].kind = m at *
  rw [hL] at HW HWd ⊢
  have c1 : w.cell? ⟨b, o + 9, none⟩ = some (.int .i64 m) := c0
  skip
  clear hc hp c0 hkid hl ha hk hL har
  by_cases hm7 : m = 7
  ·subst hm7
   have hr : Hid ((2 : Int) = R) := tuck (by rw [hunf]; decide)
   clear hunf
   go_enter Tryz.func61, Tryz.ntmps61
   go_wp2_with fail
   refine (main_any 9 _).mono ?_
   rintro e w1 ⟨rfl, rfl⟩
   rw [show mainIx 9 = 3 by decide]
   go_wp2_with fail
   go_region
   go_wp2_with fail
   exact HWd.out _ hr.out
  by_cases hm8 : m = 8
  ·subst hm8
   have hr : Hid ((3 : Int) = R) := tuck (by rw [hunf]; decide)
   clear hunf
   go_enter Tryz.func61, Tryz.ntmps61
   go_wp2_with fail
   refine (main_any 9 _).mono ?_
   rintro e w1 ⟨rfl, rfl⟩
   rw [show mainIx 9 = 3 by decide]
   go_wp2_with fail
   go_region
   go_wp2_with fail
   exact HWd.out _ hr.out
  have hr : Hid ((0 : Int) = R) := tuck (by rw [hunf]; unfold redexK; (repeat' split) <;> omega)
  have g7 : (m == 7) = false := by simpa using hm7
  have g8 : (m == 8) = false := by simpa using hm8
  clear hunf
  go_enter Tryz.func61, Tryz.ntmps61
  go_wp2_with fail
  refine (main_any 9 _).mono ?_
  rintro e w1 ⟨rfl, rfl⟩
  rw [show mainIx 9 = 3 by decide]
  go_wp2_with fail
  go_region
  go_wp2_with fail
  exact HWd.out _ hr.out
 by_cases hk : t.kind = 12
 ·rw [hk] at ha hunf HW HWd ⊢
  have har : arity 12 = 3 := by decide
  have hL : t.kids.length = 3 := by omega
  obtain ⟨rfl, _, hbw⟩ := hp (by intro e; rw [e] at hL; simp at hL)
  obtain ⟨s', c0, -, -, -⟩ := hc 1 (by omega)
  have hkid := kidK_eq (l := t.kids) (i := 1) (by omega)
  rw [show (mainIx 12).toNat = 1 by decide, hkid] at hunf
  generalize t.kids[1].kind = m at *
  rw [hL] at HW HWd ⊢
  have c1 : w.cell? ⟨b, o + 3, none⟩ = some (.int .i64 m) := c0
  skip
  clear hc hp c0 hkid hl ha hk hL har
  by_cases hm11 : m = 11
  ·subst hm11
   have hr : Hid ((4 : Int) = R) := tuck (by rw [hunf]; decide)
   clear hunf
   go_enter Tryz.func61, Tryz.ntmps61
   go_wp2_with fail
   refine (main_any 12 _).mono ?_
   rintro e w1 ⟨rfl, rfl⟩
   rw [show mainIx 12 = 1 by decide]
   go_wp2_with fail
   go_region
   go_wp2_with fail
   exact HWd.out _ hr.out
  have hr : Hid ((0 : Int) = R) := tuck (by rw [hunf]; unfold redexK; (repeat' split) <;> omega)
  have g11 : (m == 11) = false := by simpa using hm11
  clear hunf
  go_enter Tryz.func61, Tryz.ntmps61
  go_wp2_with fail
  refine (main_any 12 _).mono ?_
  rintro e w1 ⟨rfl, rfl⟩
  rw [show mainIx 12 = 1 by decide]
  go_wp2_with fail
  go_region
  go_wp2_with fail
  exact HWd.out _ hr.out
 by_cases hk : t.kind = 15
 ·rw [hk] at ha hunf HW HWd ⊢
  have har : arity 15 = 1 := by decide
  have hL : t.kids.length = 1 := by omega
  obtain ⟨rfl, _, hbw⟩ := hp (by intro e; rw [e] at hL; simp at hL)
  obtain ⟨s', c0, -, -, -⟩ := hc 0 (by omega)
  have hkid := kidK_eq (l := t.kids) (i := 0) (by omega)
  rw [show (mainIx 15).toNat = 0 by decide, hkid] at hunf
  generalize t.kids[0].kind = m at *
  rw [hL] at HW HWd ⊢
  have c1 : w.cell? ⟨b, o + 0, none⟩ = some (.int .i64 m) := c0
  rw [Nat.add_zero] at c1
  clear hc hp c0 hkid hl ha hk hL har
  by_cases hm14 : m = 14
  ·subst hm14
   have hr : Hid ((5 : Int) = R) := tuck (by rw [hunf]; decide)
   clear hunf
   go_enter Tryz.func61, Tryz.ntmps61
   go_wp2_with fail
   refine (main_any 15 _).mono ?_
   rintro e w1 ⟨rfl, rfl⟩
   rw [show mainIx 15 = 0 by decide]
   go_wp2_with fail
   go_region
   go_wp2_with fail
   exact HWd.out _ hr.out
  have hr : Hid ((0 : Int) = R) := tuck (by rw [hunf]; unfold redexK; (repeat' split) <;> omega)
  have g14 : (m == 14) = false := by simpa using hm14
  clear hunf
  go_enter Tryz.func61, Tryz.ntmps61
  go_wp2_with fail
  refine (main_any 15 _).mono ?_
  rintro e w1 ⟨rfl, rfl⟩
  rw [show mainIx 15 = 0 by decide]
  go_wp2_with fail
  go_region
  go_wp2_with fail
  exact HWd.out _ hr.out
 by_cases hk : t.kind = 16
 ·rw [hk] at ha hunf HW HWd ⊢
  have har : arity 16 = 1 := by decide
  have hL : t.kids.length = 1 := by omega
  obtain ⟨rfl, _, hbw⟩ := hp (by intro e; rw [e] at hL; simp at hL)
  obtain ⟨s', c0, -, -, -⟩ := hc 0 (by omega)
  have hkid := kidK_eq (l := t.kids) (i := 0) (by omega)
  rw [show (mainIx 16).toNat = 0 by decide, hkid] at hunf
  generalize t.kids[0].kind = m at *
  rw [hL] at HW HWd ⊢
  have c1 : w.cell? ⟨b, o + 0, none⟩ = some (.int .i64 m) := c0
  rw [Nat.add_zero] at c1
  clear hc hp c0 hkid hl ha hk hL har
  by_cases hm14 : m = 14
  ·subst hm14
   have hr : Hid ((6 : Int) = R) := tuck (by rw [hunf]; decide)
   clear hunf
   go_enter Tryz.func61, Tryz.ntmps61
   go_wp2_with fail
   refine (main_any 16 _).mono ?_
   rintro e w1 ⟨rfl, rfl⟩
   rw [show mainIx 16 = 0 by decide]
   go_wp2_with fail
   go_region
   go_wp2_with fail
   exact HWd.out _ hr.out
  have hr : Hid ((0 : Int) = R) := tuck (by rw [hunf]; unfold redexK; (repeat' split) <;> omega)
  have g14 : (m == 14) = false := by simpa using hm14
  clear hunf
  go_enter Tryz.func61, Tryz.ntmps61
  go_wp2_with fail
  refine (main_any 16 _).mono ?_
  rintro e w1 ⟨rfl, rfl⟩
  rw [show mainIx 16 = 0 by decide]
  go_wp2_with fail
  go_region
  go_wp2_with fail
  exact HWd.out _ hr.out
 have hr : Hid ((0 : Int) = R) := tuck (by rw [hunf]; unfold redexK; (repeat' split) <;> omega)
 have hmi : mainIx t.kind = -1 := by unfold mainIx; (repeat' split) <;> omega
 have HM : Hid (∀ w : World, Calls Tryz.prog 99 #[.int .i64 t.kind] w fun e w' => e = .returned (.tuple #[.int .i64 0, .bool false]) ∧ w = w') := tuck fun w => by
  have h := main_any t.kind w
  rw [hmi] at h
  simpa using h
 clear hunf hc hp ha hmi hl
 generalize t.kind = k at *
 generalize t.kids.length = L at *
 go_enter Tryz.func61, Tryz.ntmps61
 go_wp2_with fail
 refine (HM.out _).mono ?_
 rintro e w1 ⟨rfl, rfl⟩
 go_wp2_with fail
 exact HW.out _ hr.out 0
end Go.Proofs.YtpddjebdncaceaaGreat
namespace Go.Proofs.YtpddjebdncaceaaGreat
def kidT (t : Tm) (i : Nat) : Tm := t.kids.getD i zeroT
def Tm.contr (t : Tm) : Tm :=
 if t.redex = 1 then (kidT (kidT t 0) 1).subst (kidT t 1) 0 0 else if t.redex = 2 then kidT t 1
 else if t.redex = 3 then .mk 5 0 [.mk 5 0 [kidT t 2, kidT (kidT t 3) 0], .mk 9 0 [kidT t 0, kidT t 1, kidT t 2, kidT (kidT t 3) 0]]
 else if t.redex = 4 then kidT t 2 else if t.redex = 5 then kidT (kidT t 0) 1 else kidT (kidT t 0) 2
section
variable (rl mo : Bool)
mutual
def Tm.find : Tm → Option (List (Tm × Nat) × Tm)
 | .mk k n l =>
  if (Tm.mk k n l).redex ≠ 0 ∧ rl = false then some ([], .mk k n l) else
  match findL (.mk k n l) l 0 with
  | some x => some x
  | none => if (Tm.mk k n l).redex ≠ 0 then some ([], .mk k n l) else none
def findL (t0 : Tm) : List Tm → Nat → Option (List (Tm × Nat) × Tm)
 | [], _ => none
 | t :: l, i =>
  match (if mo = true ∧ mainIx t0.kind ≠ (i : Int) then none else t.find) with
  | some (p, r) => some ((t0, i) :: p, r)
  | none => findL t0 l (i + 1)
end
mutual
def Tm.step : Tm → Option Tm
 | .mk k n l =>
  if (Tm.mk k n l).redex ≠ 0 ∧ rl = false then some (Tm.mk k n l).contr else
  match stepL k l 0 with
  | some l' => some (.mk k n l')
  | none => if (Tm.mk k n l).redex ≠ 0 then some (Tm.mk k n l).contr else none
def stepL (k : Int) : List Tm → Nat → Option (List Tm)
 | [], _ => none
 | t :: l, i =>
  match (if mo = true ∧ mainIx k ≠ (i : Int) then none else t.step) with
  | some t' => some (t' :: l)
  | none => (stepL k l (i + 1)).map (t :: ·)
end
end
def around : List (Tm × Nat) → Tm → Tm
 | [], x => x
 | (t, i) :: p, x => .mk t.kind t.num (t.kids.set i (around p x))
section
variable {rl mo : Bool}
mutual
theorem Tm.find_step : ∀ t : Tm, t.step rl mo = (t.find rl mo).map fun x => around x.1 x.2.contr
 | .mk k n l => by
  rw [Tm.step, Tm.find]
  by_cases h : (Tm.mk k n l).redex ≠ 0 ∧ rl = false
  ·rw [if_pos h, if_pos h]; rfl
  ·rw [if_neg h, if_neg h]
   have hl : Option.map (fun m => Tm.mk k n m) (stepL rl mo k l 0) = Option.map (fun x => around x.1 x.2.contr) (findL rl mo (.mk k n l) l 0) := findL_step (Tm.mk k n l) l [] rfl
   cases hf : findL rl mo (.mk k n l) l 0 with
   | none =>
    rw [hf] at hl
    have hs : stepL rl mo k l 0 = none := by
     cases e : stepL rl mo k l 0 with
     | none => rfl
     | some y => rw [e] at hl; simp at hl
    rw [hs]
    by_cases h2 : (Tm.mk k n l).redex ≠ 0
    ·simp only [if_pos h2]; rfl
    ·simp only [if_neg h2]; rfl
   | some x =>
    rw [hf] at hl
    cases e : stepL rl mo k l 0 with
    | none => rw [e] at hl; simp at hl
    | some y =>
     rw [e] at hl
     simpa using hl
theorem findL_step (t0 : Tm) : ∀ (l pre : List Tm), t0.kids = pre ++ l → (stepL rl mo t0.kind l pre.length).map (fun m => Tm.mk t0.kind t0.num (pre ++ m)) = (findL rl mo t0 l pre.length).map fun x => around x.1 x.2.contr
 | [], pre, _ => by rw [stepL, findL]; rfl
 | t :: l, pre, h => by
  have ih := findL_step t0 l (pre ++ [t]) (by rw [h, List.append_assoc]; rfl)
  rw [List.length_append, List.length_singleton] at ih
  rw [stepL, findL]
  by_cases hm : mo = true ∧ mainIx t0.kind ≠ (pre.length : Int)
  ·rw [if_pos hm, if_pos hm]
   show Option.map _ (Option.map _ _) = Option.map _ (findL rl mo t0 l (pre.length + 1))
   rw [← ih, Option.map_map]
   congr 1
   funext m
   simp
  ·rw [if_neg hm, if_neg hm, Tm.find_step t]
   cases hf : t.find rl mo with
   | none =>
    show Option.map _ (Option.map _ _) = Option.map _ (findL rl mo t0 l (pre.length + 1))
    rw [← ih, Option.map_map]
    congr 1
    funext m
    simp
   | some x =>
    obtain ⟨p, r⟩ := x
    show some (Tm.mk t0.kind t0.num (pre ++ around p r.contr :: l)) = some (around ((t0, pre.length) :: p) r.contr)
    rw [around, h, List.set_append_right _ _ (Nat.le_refl _), Nat.sub_self]
    rfl
end
end
end Go.Proofs.YtpddjebdncaceaaGreat
namespace Go.Proofs.YtpddjebdncaceaaGreat
theorem Tm.Valid.get {t : Tm} (h : t.Valid) {i : Nat} (hi : i < t.kids.length) : t.kids[i].Valid := by
 obtain ⟨h1, h2, h3⟩ := h
 refine ⟨(allsOk_iff _).1 (t.allOk_iff.1 h1).2 _ (List.getElem_mem hi), ?_, ?_⟩
 ·have := mem_hgts hi
  have := t.hgt_eq
  omega
 ·have := size_get_le t.kids i hi
  have := t.size_eq
  omega
theorem kidT_eq {t : Tm} {i : Nat} (hi : i < t.kids.length) : kidT t i = t.kids[i] := by
 unfold kidT
 rw [List.getD_eq_getElem?_getD, List.getElem?_eq_getElem hi]
 rfl
theorem Tm.Valid.kidT {t : Tm} (h : t.Valid) {i : Nat} (hi : i < t.kids.length) : (kidT t i).Valid := by
 rw [kidT_eq hi]; exact h.get hi
def InPath : List (Tm × Nat) → Prop
 | [] => True
 | (t, i) :: p => i < t.kids.length ∧ InPath p
theorem around_valid : ∀ (p : List (Tm × Nat)) (x : Tm), InPath p → (around p x).Valid → x.Valid
 | [], _, _, h => h
 | (t, i) :: p, x, hp, h => by
  rw [around] at h
  have := h.get (i := i) (by simpa [Tm.kids] using hp.1)
  simp only [Tm.kids, List.getElem_set_self] at this
  exact around_valid p x hp.2 this
mutual
theorem Tm.find_ok {rl mo : Bool} : ∀ (t : Tm) (p : List (Tm × Nat)) (x : Tm), t.find rl mo = some (p, x) → t.Valid → InPath p ∧ x.redex ≠ 0 ∧ x.Valid ∧ p.length ≤ hgts t.kids ∧ ∀ y ∈ p, y.1.Valid
 | .mk k n l, p, x, h, hv => by
  rw [Tm.find] at h
  by_cases h1 : (Tm.mk k n l).redex ≠ 0 ∧ rl = false
  ·rw [if_pos h1] at h
   obtain ⟨rfl, rfl⟩ : [] = p ∧ Tm.mk k n l = x := by simpa using h
   exact ⟨trivial, h1.1, hv, Nat.zero_le _, fun y hy => by cases hy⟩
  ·rw [if_neg h1] at h
   cases hf : findL rl mo (.mk k n l) l 0 with
   | some y =>
    rw [hf] at h
    obtain rfl : y = (p, x) := by simpa using h
    exact findL_ok (.mk k n l) hv l [] rfl p x hf
   | none =>
    rw [hf] at h
    by_cases h2 : (Tm.mk k n l).redex ≠ 0
    ·simp only [if_pos h2] at h
     obtain ⟨rfl, rfl⟩ : [] = p ∧ Tm.mk k n l = x := by simpa using h
     exact ⟨trivial, h2, hv, Nat.zero_le _, fun y hy => by cases hy⟩
    ·simp only [if_neg h2] at h
     cases h
theorem findL_ok {rl mo : Bool} (t0 : Tm) (hv : t0.Valid) : ∀ (l pre : List Tm), t0.kids = pre ++ l → ∀ (p : List (Tm × Nat)) (x : Tm), findL rl mo t0 l pre.length = some (p, x) → InPath p ∧ x.redex ≠ 0 ∧ x.Valid ∧ p.length ≤ hgts t0.kids ∧ ∀ y ∈ p, y.1.Valid
 | [], pre, _, p, x, h => by rw [findL] at h; cases h
 | t :: l, pre, e, p, x, h => by
  rw [findL] at h
  have hlen : pre.length < t0.kids.length := by rw [e]; simp
  have hget : t0.kids[pre.length] = t := by simp [e]
  cases hf : (if mo = true ∧ mainIx t0.kind ≠ (pre.length : Int) then none else t.find rl mo) with
  | none =>
   rw [hf] at h
   exact findL_ok t0 hv l (pre ++ [t]) (by rw [e, List.append_assoc]; rfl) p x (by rw [List.length_append, List.length_singleton]; exact h)
  | some y =>
   obtain ⟨p', x'⟩ := y
   rw [hf] at h
   obtain ⟨rfl, rfl⟩ : (t0, pre.length) :: p' = p ∧ x' = x := by simpa using h
   have hf' : t.find rl mo = some (p', x') := by
    split at hf
    ·cases hf
    ·exact hf
   have hvt : t.Valid := hget ▸ hv.get hlen
   obtain ⟨a, b, c, d, e'⟩ := Tm.find_ok t p' x' hf' hvt
   refine ⟨⟨hlen, a⟩, b, c, ?_, fun y hy => ?_⟩
   ·have h1 := mem_hgts hlen
    rw [hget, t.hgt_eq] at h1
    rw [List.length_cons]
    omega
   ·rcases List.mem_cons.1 hy with rfl | hy
    ·exact hv
    ·exact e' y hy
end
theorem redex_shape {t : Tm} (hr : t.rootOk) (h : t.redex ≠ 0) :
  (t.redex = 1 ∧ t.kind = 5 ∧ t.kids.length = 2 ∧ (kidT t 0).kind = 4) ∨ (t.redex = 2 ∧ t.kind = 9 ∧ t.kids.length = 4 ∧ (kidT t 3).kind = 7) ∨ (t.redex = 3 ∧ t.kind = 9 ∧ t.kids.length = 4 ∧ (kidT t 3).kind = 8) ∨
  (t.redex = 4 ∧ t.kind = 12 ∧ t.kids.length = 3 ∧ (kidT t 1).kind = 11) ∨ (t.redex = 5 ∧ t.kind = 15 ∧ t.kids.length = 1 ∧ (kidT t 0).kind = 14) ∨ (t.redex = 6 ∧ t.kind = 16 ∧ t.kids.length = 1 ∧ (kidT t 0).kind = 14) := by
 have ha : arity t.kind = t.kids.length := hr.1
 have hred : t.redex = redexK t.kind (kidT t (mainIx t.kind).toNat).kind := rfl
 by_cases h5 : t.kind = 5
 ·rw [h5] at ha hred
  rw [show (mainIx 5).toNat = 0 by decide] at hred
  have h2 : arity 5 = 2 := by decide
  have hm : (kidT t 0).kind = 4 := by
   refine Classical.byContradiction fun hc => h ?_
   rw [hred]; unfold redexK; (repeat' split) <;> omega
  rw [hm] at hred
  exact Or.inl ⟨hred.trans (by decide), h5, by omega, hm⟩
 by_cases h9 : t.kind = 9
 ·rw [h9] at ha hred
  rw [show (mainIx 9).toNat = 3 by decide] at hred
  have h2 : arity 9 = 4 := by decide
  have hm : (kidT t 3).kind = 7 ∨ (kidT t 3).kind = 8 := by
   refine Classical.byContradiction fun hc => h ?_
   rw [hred]; unfold redexK; (repeat' split) <;> omega
  rcases hm with hm | hm
  ·rw [hm] at hred
   exact Or.inr (Or.inl ⟨hred.trans (by decide), h9, by omega, hm⟩)
  ·rw [hm] at hred
   exact Or.inr (Or.inr (Or.inl ⟨hred.trans (by decide), h9, by omega, hm⟩))
 by_cases h12 : t.kind = 12
 ·rw [h12] at ha hred
  rw [show (mainIx 12).toNat = 1 by decide] at hred
  have h2 : arity 12 = 3 := by decide
  have hm : (kidT t 1).kind = 11 := by
   refine Classical.byContradiction fun hc => h ?_
   rw [hred]; unfold redexK; (repeat' split) <;> omega
  rw [hm] at hred
  exact Or.inr (Or.inr (Or.inr (Or.inl ⟨hred.trans (by decide), h12, by omega, hm⟩)))
 by_cases h15 : t.kind = 15
 ·rw [h15] at ha hred
  rw [show (mainIx 15).toNat = 0 by decide] at hred
  have h2 : arity 15 = 1 := by decide
  have hm : (kidT t 0).kind = 14 := by
   refine Classical.byContradiction fun hc => h ?_
   rw [hred]; unfold redexK; (repeat' split) <;> omega
  rw [hm] at hred
  exact Or.inr (Or.inr (Or.inr (Or.inr (Or.inl ⟨hred.trans (by decide), h15, by omega, hm⟩))))
 by_cases h16 : t.kind = 16
 ·rw [h16] at ha hred
  rw [show (mainIx 16).toNat = 0 by decide] at hred
  have h2 : arity 16 = 1 := by decide
  have hm : (kidT t 0).kind = 14 := by
   refine Classical.byContradiction fun hc => h ?_
   rw [hred]; unfold redexK; (repeat' split) <;> omega
  rw [hm] at hred
  exact Or.inr (Or.inr (Or.inr (Or.inr (Or.inr ⟨hred.trans (by decide), h16, by omega, hm⟩))))
 refine absurd ?_ h
 rw [hred]; unfold redexK; (repeat' split) <;> omega
theorem kid_len {t : Tm} (h : t.rootOk) {k : Int} (hk : t.kind = k) {a : Int} (ha : arity k = a) : (t.kids.length : Int) = a := by
 have := h.1
 rw [hk, ha] at this
 exact this.symm
theorem Tm.Valid.root {t : Tm} (h : t.Valid) : t.rootOk := (t.allOk_iff.1 h.1).1
theorem contr_part {t : Tm} (hk : ∀ i (hi : i < t.kids.length), t.kids[i].Valid) (hr : t.rootOk) (h : t.redex ≠ 0) (h1 : t.redex ≠ 1) (h3 : t.redex ≠ 3) : t.contr.Valid := by
 have hv : ∀ i, i < t.kids.length → (kidT t i).Valid := fun i hi => by rw [kidT_eq hi]; exact hk i hi
 unfold Tm.contr
 rcases redex_shape hr h with ⟨e, _⟩ | ⟨e, -, hl, -⟩ | ⟨e, _⟩ | ⟨e, -, hl, -⟩ | ⟨e, -, hl, hm⟩ | ⟨e, -, hl, hm⟩
 ·exact absurd e h1
 ·rw [e, if_neg (by decide), if_pos rfl]; exact hv 1 (by omega)
 ·exact absurd e h3
 ·rw [e, if_neg (by decide), if_neg (by decide), if_neg (by decide), if_pos rfl]; exact hv 2 (by omega)
 ·rw [e, if_neg (by decide), if_neg (by decide), if_neg (by decide), if_neg (by decide), if_pos rfl]
  have := hv 0 (by omega)
  exact this.kidT (by have := kid_len this.root hm (a := 3) (by decide); omega)
 ·rw [e, if_neg (by decide), if_neg (by decide), if_neg (by decide), if_neg (by decide), if_neg (by decide)]
  have := hv 0 (by omega)
  exact this.kidT (by have := kid_len this.root hm (a := 3) (by decide); omega)
noncomputable def stepOut (rl mo : Bool) (t : Tm) : Tm × Int :=
 @ite _ t.Valid (Classical.propDecidable _) (match t.step rl mo with | none => (t, 0) | some t' => @ite _ t'.Valid (Classical.propDecidable _) (t', 1) (zeroT, 2)) (zeroT, 3)
end Go.Proofs.YtpddjebdncaceaaGreat
namespace Go.Proofs.YtpddjebdncaceaaGreat
def way (t : Tm) (N : Int → Int) : Nat → Option (List (Tm × Nat) × Tm)
 | 0 => some ([], t)
 | i + 1 => (way t N i).bind fun x => if 0 ≤ N i ∧ N i < (x.2.kids.length : Int) then some (x.1 ++ [(x.2, (N i).toNat)], kidT x.2 (N i).toNat) else none
def wayP (t : Tm) (N : Int → Int) (i : Nat) : List (Tm × Nat) := ((way t N i).getD ([], zeroT)).1
def wayT (t : Tm) (N : Int → Int) (i : Nat) : Tm := ((way t N i).getD ([], zeroT)).2
def IsPlace (t : Tm) (N : Int → Int) (len : Nat) : Prop := t.Valid ∧ (way t N len).isSome = true
theorem way_yes {t : Tm} {N : Int → Int} {i : Nat} {p : List (Tm × Nat)} {x : Tm} (h : way t N i = some (p, x)) (hi : 0 ≤ N i ∧ N i < (x.kids.length : Int)) : way t N (i + 1) = some (p ++ [(x, (N i).toNat)], kidT x (N i).toNat) := by
 rw [way, h]
 simp only [Option.bind_some]
 rw [if_pos hi]
theorem way_no {t : Tm} {N : Int → Int} {i : Nat} {p : List (Tm × Nat)} {x : Tm} (h : way t N i = some (p, x)) (hi : ¬ (0 ≤ N i ∧ N i < (x.kids.length : Int))) : way t N (i + 1) = none := by
 rw [way, h]
 simp only [Option.bind_some]
 rw [if_neg hi]
theorem way_stays {t : Tm} {N : Int → Int} {i : Nat} (h : way t N i = none) : ∀ k, way t N (i + k) = none
 | 0 => h
 | k + 1 => by
  rw [← Nat.add_assoc, way, way_stays h k]
  rfl
theorem no_place {t : Tm} {N : Int → Int} {i len : Nat} {p : List (Tm × Nat)} {x : Tm} (h : way t N i = some (p, x)) (hi : ¬ (0 ≤ N i ∧ N i < (x.kids.length : Int))) (hl : i < len) : ¬ IsPlace t N len := by
 rintro ⟨-, h2⟩
 have := way_stays (way_no h hi) (len - (i + 1))
 rw [show i + 1 + (len - (i + 1)) = len by omega] at this
 rw [this] at h2
 cases h2
theorem is_place {t : Tm} {N : Int → Int} {len : Nat} {p : List (Tm × Nat)} {x : Tm} (hv : t.Valid) (h : way t N len = some (p, x)) : IsPlace t N len ∧ wayP t N len = p ∧ wayT t N len = x := by
 refine ⟨⟨hv, by rw [h]; rfl⟩, ?_, ?_⟩
 ·rw [wayP, h]; rfl
 ·rw [wayT, h]; rfl
theorem IsPlace.way {t : Tm} {N : Int → Int} {len : Nat} (h : IsPlace t N len) : way t N len = some (wayP t N len, wayT t N len) := by
 obtain ⟨-, h⟩ := h
 unfold wayP wayT
 cases hw : Go.Proofs.YtpddjebdncaceaaGreat.way t N len with
 | none => rw [hw] at h; cases h
 | some y => rfl
def Chain (t : Tm) : List (Tm × Nat) → Tm → Prop
 | [], x => t = x
 | (a, i) :: p, x => a = t ∧ i < t.kids.length ∧ Chain (kidT t i) p x
theorem Chain.snoc : ∀ {p : List (Tm × Nat)} {t x : Tm} {i : Nat}, Chain t p x → i < x.kids.length → Chain t (p ++ [(x, i)]) (kidT x i)
 | [], _, _, _, h, hi => by
  rw [Chain] at h
  subst h
  exact ⟨rfl, hi, rfl⟩
 | (a, j) :: p, t, x, i, h, hi => ⟨h.1, h.2.1, Chain.snoc (p := p) h.2.2 hi⟩
theorem around_snoc : ∀ (p : List (Tm × Nat)) (x z : Tm) (i : Nat), around (p ++ [(x, i)]) z = around p (.mk x.kind x.num (x.kids.set i z))
 | [], x, z, i => rfl
 | (a, j) :: p, x, z, i => by
  rw [List.cons_append, around, around, around_snoc p x z i]
theorem set_kidT {l : List Tm} {i : Nat} (hi : i < l.length) : l.set i (l.getD i zeroT) = l := by
 apply List.ext_getElem
 ·simp
 ·intro j h1 h2
  by_cases e : i = j
  ·subst e
   simp [List.getD_eq_getElem?_getD, List.getElem?_eq_getElem hi]
  ·simp [List.getElem_set_ne e]
theorem inPath_snoc : ∀ {p : List (Tm × Nat)} {x : Tm} {i : Nat}, InPath p → i < x.kids.length → InPath (p ++ [(x, i)])
 | [], _, _, _, hi => ⟨hi, trivial⟩
 | _ :: p, _, _, h, hi => ⟨h.1, inPath_snoc (p := p) h.2 hi⟩
structure Known (t : Tm) (N : Int → Int) (i : Nat) (p : List (Tm × Nat)) (x : Tm) : Prop where
 len : p.length = i
 valid : x.Valid
 room : hgts x.kids + p.length ≤ hgts t.kids
 inn : InPath p
 nodes : ∀ y ∈ p, y.1.Valid
 back : around p x = t
 chain : Chain t p x
 ix : ∀ j (h : j < p.length), ((p[j].2 : Nat) : Int) = N (j : Int)
theorem way_ok {t : Tm} {N : Int → Int} (hv : t.Valid) : ∀ (i : Nat) (p : List (Tm × Nat)) (x : Tm), way t N i = some (p, x) → Known t N i p x
 | 0, p, x, h => by
  rw [way] at h
  obtain ⟨rfl, rfl⟩ : [] = p ∧ t = x := by simpa using h
  exact ⟨rfl, hv, Nat.le_refl _, trivial, fun y hy => (by cases hy), rfl, rfl, fun j h => (by simp at h)⟩
 | i + 1, p, x, h => by
  rw [way] at h
  cases hw : way t N i with
  | none => rw [hw] at h; cases h
  | some y =>
   obtain ⟨q, z⟩ := y
   rw [hw] at h
   simp only [Option.bind_some] at h
   by_cases hi : 0 ≤ N i ∧ N i < (z.kids.length : Int)
   ·rw [if_pos hi] at h
    obtain ⟨rfl, rfl⟩ : q ++ [(z, (N i).toNat)] = p ∧ kidT z (N i).toNat = x := by simpa using h
    have ih := way_ok hv i q z hw
    have hj : (N i).toNat < z.kids.length := by omega
    refine ⟨by simp [ih.len], ih.valid.kidT hj, ?_, inPath_snoc ih.inn hj, ?_, ?_, ih.chain.snoc hj, ?_⟩
    ·have h1 := mem_hgts hj
     rw [kidT_eq hj]
     have h2 := (z.kids[(N i).toNat]).hgt_eq
     have h3 := ih.room
     rw [List.length_append, List.length_singleton]
     omega
    ·intro y hy
     rcases List.mem_append.1 hy with hy | hy
     ·exact ih.nodes y hy
     ·rw [List.mem_singleton.1 hy]; exact ih.valid
    ·rw [around_snoc]
     unfold kidT
     rw [set_kidT hj, Tm.eta]
     exact ih.back
    ·intro j hjl
     rw [List.length_append, List.length_singleton] at hjl
     rcases Nat.lt_or_ge j q.length with hlt | hge
     ·rw [List.getElem_append_left hlt]; exact ih.ix j hlt
     ·have e : j = q.length := by omega
      subst e
      rw [List.getElem_append_right (Nat.le_refl _)]
      simp only [Nat.sub_self, List.getElem_cons_zero]
      rw [ih.len]
      omega
   ·rw [if_neg hi] at h; cases h
theorem IsPlace.ok {t : Tm} {N : Int → Int} {len : Nat} (h : IsPlace t N len) : Known t N len (wayP t N len) (wayT t N len) := way_ok h.1 _ _ _ h.way
theorem Known.short {t : Tm} {N : Int → Int} {i : Nat} {p : List (Tm × Nat)} {x : Tm} (h : Known t N i p x) (hv : t.Valid) : i ≤ 29 ∧ p.length ≤ 29 := by
 have h1 := h.room
 have h2 := h.len
 have h3 := t.hgt_eq
 have h4 := hv.2.1
 omega
theorem Tm.Valid.kids4 {t : Tm} (h : t.Valid) : t.kids.length ≤ 4 := by
 have h1 := h.root.1
 have : arity t.kind ≤ 4 := by unfold arity; (repeat' split) <;> omega
 omega
end Go.Proofs.YtpddjebdncaceaaGreat
namespace Go.Proofs.YtpddjebdncaceaaGreat
def preKind (b : Nat) : Int := if b = 33 then 11 else if b = 94 then 15 else if b = 95 then 16 else 8
def roundKind (b : Nat) : Int := if b = 62 then 3 else if b = 42 then 13 else if b = 32 then 5 else 0
def blockKind (b : Nat) : Int := if b = 60 then 9 else if b = 123 then 10 else if b = 124 then 14 else if b = 64 then 12 else 0
def blockLast (b : Nat) : Nat := if b = 123 then 125 else if b = 124 then 124 else 62
def byteAt (s : ByteArray) (a : Nat) : Nat := if h : a < s.size then s[a].toNat else 0
theorem byteAt_eq {s : ByteArray} {a : Nat} (h : a < s.size) : byteAt s a = s[a].toNat := dif_pos h
def ptSer (s : ByteArray) (f : Nat → Option (Tm × Nat)) (last : Nat) : Nat → Nat → Option (List Tm × Nat)
 | 0, a => some ([], a)
 | m + 1, a => match f a with
  | none => none
  | some x => if x.2 < s.size ∧ byteAt s x.2 = (if m = 0 then last else 44) then (ptSer s f last m (x.2 + 1)).map fun y => (x.1 :: y.1, y.2) else none
def ptRound (s : ByteArray) (f : Nat → Option (Tm × Nat)) (a : Nat) : Option (Tm × Nat) :=
 match f a with
 | none => none
 | some x => if x.2 < s.size then (match f (x.2 + 1) with
  | none => none
  | some y => if roundKind (byteAt s x.2) ≠ 0 ∧ y.2 < s.size ∧ byteAt s y.2 = 41 then some (.mk (roundKind (byteAt s x.2)) 0 [x.1, y.1], y.2 + 1) else none) else none
def ptLam (s : ByteArray) (f : Nat → Option (Tm × Nat)) (a : Nat) : Option (Tm × Nat) :=
 match f a with
 | none => none
 | some x => if x.2 < s.size ∧ byteAt s x.2 = 93 then (f (x.2 + 1)).map fun y => (.mk 4 0 [x.1, y.1], y.2) else none
def ptBlock (s : ByteArray) (f : Nat → Option (Tm × Nat)) (a : Nat) : Option (Tm × Nat) :=
 if blockKind (byteAt s a) = 0 then none else
 if byteAt s a = 64 ∧ ¬ byteAt s (a + 1) = 60 then none else
 (ptSer s f (blockLast (byteAt s a)) (if blockKind (byteAt s a) = 9 then 4 else 3) (if byteAt s a = 64 then a + 2 else a + 1)).map fun y => (.mk (blockKind (byteAt s a)) 0 y.1, y.2)
def pt (s : ByteArray) : Nat → Nat → Option (Tm × Nat)
 | 0, _ => none
 | d + 1, a => if a < s.size then
   if byteAt s a = 35 then (ptNum s (a + 1) 2).map fun x => (.mk 1 x.1 [], x.2)
   else if byteAt s a = 42 then (ptNum s (a + 1) 1).map fun x => (.mk 2 x.1 [], x.2)
   else if byteAt s a = 78 then some (.mk 6 0 [], a + 1)
   else if byteAt s a = 48 then some (.mk 7 0 [], a + 1)
   else if byteAt s a = 43 ∨ byteAt s a = 33 ∨ byteAt s a = 94 ∨ byteAt s a = 95 then (pt s d (a + 1)).map fun x => (.mk (preKind (byteAt s a)) 0 [x.1], x.2)
   else if byteAt s a = 40 then ptRound s (pt s d) (a + 1)
   else if byteAt s a = 91 then ptLam s (pt s d) (a + 1)
   else ptBlock s (pt s d) a
  else none
theorem ptNum_le {s : ByteArray} {a d : Nat} {x : Nat × Nat} (ha : a ≤ s.size) (h : ptNum s a d = some x) : x.2 ≤ s.size := by
 unfold ptNum at h
 split at h
 ·simp only [Option.some.injEq] at h
  rw [← h]
  exact digRun_in s d a ha
 ·cases h
end Go.Proofs.YtpddjebdncaceaaGreat
