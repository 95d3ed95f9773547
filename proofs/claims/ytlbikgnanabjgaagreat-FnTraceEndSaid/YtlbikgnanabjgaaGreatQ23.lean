/-
  Red.
-/
import Derived.Test.YtlbikgnanabjgaaGreatQ09
import Derived.Test.YtlbikgnanabjgaaGreatQ10
import Derived.Test.YtlbikgnanabjgaaGreatQ14
namespace Go.Proofs.YtlbikgnanabjgaaGreat
open Go.RowKit
def mainIx (k : Int) : Int := if k = 5 ∨ k = 15 ∨ k = 16 then 0 else if k = 9 then 3 else if k = 12 then 1 else -1
def redexK (k m : Int) : Int := if k = 5 ∧ m = 4 then 1 else if k = 9 ∧ m = 7 then 2 else if k = 9 ∧ m = 8 then 3 else if k = 12 ∧ m = 11 then 4 else if k = 15 ∧ m = 14 then 5 else if k = 16 ∧ m = 14 then 6 else 0
def kidK (l : List Tm) (i : Nat) : Int := (l.getD i zeroT).kind
def Tm.redex (t : Tm) : Int := redexK t.kind (kidK t.kids (mainIx t.kind).toNat)
theorem kidK_eq {l : List Tm} {i : Nat} (h : i < l.length) : kidK l i = l[i].kind := by
 unfold kidK
 rw [List.getD_eq_getElem?_getD, List.getElem?_eq_getElem h]
 rfl
theorem main_any (k : Int) (w : World) : Calls Tryz.prog 65 #[.int .i64 k] w fun e w' => e = .returned (.tuple #[.int .i64 (if mainIx k = -1 then 0 else mainIx k), .bool (!decide (mainIx k = -1))]) ∧ w = w' := by
 obtain ⟨post, hpost⟩ : ∃ post : Ending → World → Prop, post = fun e w' => e = .returned (.tuple #[.int .i64 (if mainIx k = -1 then 0 else mainIx k), .bool (!decide (mainIx k = -1))]) ∧ w = w' := ⟨_, rfl⟩
 rw [← hpost]
 have HP : Hid (∀ (i : Int) (b : Bool), i = (if mainIx k = -1 then 0 else mainIx k) → b = (!decide (mainIx k = -1)) → post (.returned (.tuple #[.int .i64 i, .bool b])) w) := tuck fun i b h1 h2 => by rw [hpost, h1, h2]; exact ⟨rfl, rfl⟩
 clear hpost
 by_cases h5 : k = 5
 ·subst h5
  have HQ := tuck (HP.out 0 true (by decide) (by decide))
  clear HP
  go_enter Tryz.func65, Tryz.ntmps65
  go_wp2_with fail
  exact HQ.out
 by_cases h15 : k = 15
 ·subst h15
  have HQ := tuck (HP.out 0 true (by decide) (by decide))
  clear HP
  go_enter Tryz.func65, Tryz.ntmps65
  go_wp2_with fail
  exact HQ.out
 by_cases h16 : k = 16
 ·subst h16
  have HQ := tuck (HP.out 0 true (by decide) (by decide))
  clear HP
  go_enter Tryz.func65, Tryz.ntmps65
  go_wp2_with fail
  exact HQ.out
 by_cases h9 : k = 9
 ·subst h9
  have HQ := tuck (HP.out 3 true (by decide) (by decide))
  clear HP
  go_enter Tryz.func65, Tryz.ntmps65
  go_wp2_with fail
  exact HQ.out
 by_cases h12 : k = 12
 ·subst h12
  have HQ := tuck (HP.out 1 true (by decide) (by decide))
  clear HP
  go_enter Tryz.func65, Tryz.ntmps65
  go_wp2_with fail
  exact HQ.out
 have g5 : (k == 5) = false := by simpa using h5
 have g15 : (k == 15) = false := by simpa using h15
 have g16 : (k == 16) = false := by simpa using h16
 have g9 : (k == 9) = false := by simpa using h9
 have g12 : (k == 12) = false := by simpa using h12
 have hm : mainIx k = -1 := by unfold mainIx; (repeat' split) <;> omega
 have HQ := tuck (HP.out 0 false (by rw [hm]; rfl) (by rw [hm]; rfl))
 clear HP hm
 go_enter Tryz.func65, Tryz.ntmps65
 go_wp2_with fail
 exact HQ.out
set_option maxRecDepth 100000 in
set_option maxHeartbeats 1600000 in
theorem redS_any (t : Tm) (ht : t.rootOk) (w : World) (s : Value) (hs : SlIn w 0 t.kids s) : Calls Tryz.prog 50 #[.agg #[.int .i64 t.kind, .int .i64 t.num, s]] w (IntPost w t.redex) := by
 obtain ⟨a, cap, b, o, rfl, hl, hp, hc⟩ := hs.open
 have ha : arity t.kind = t.kids.length := ht.1
 have HW : Hid (∀ r : Int, r = t.redex → ∀ n : Nat, IntPost w t.redex (.returned (.int .i64 r)) (w.alloc (.cells #[.int .i64 t.kind, .int .i64 t.num, .slice a t.kids.length cap] 25))) := tuck fun r h _ => ⟨by rw [h], below1 _ _⟩
 have HWd : Hid (∀ r : Int, r = t.redex → IntPost w t.redex (.returned (.int .i64 r)) (w.alloc (.cells #[.int .i64 t.kind, .int .i64 t.num, .slice a t.kids.length cap] 25)).drew) := tuck fun r h => ⟨by rw [h], (below1 _ _).drew⟩
 have hunf : t.redex = redexK t.kind (kidK t.kids (mainIx t.kind).toNat) := rfl
 clear hs ht
 generalize IntPost w t.redex = post at *
 generalize t.redex = R at *
 generalize t.num = n at *
 by_cases hk : t.kind = 5
 ·rw [hk] at ha hunf HW HWd ⊢
  have har : arity 5 = 2 := by decide
  have hL : t.kids.length = 2 := by omega
  obtain ⟨rfl, _, hbw⟩ := hp (by intro e; rw [e] at hL; simp at hL)
  obtain ⟨s', c0, -, -, -⟩ := hc 0 (by omega)
  have hkid := kidK_eq (l := t.kids) (i := 0) (by omega)
  rw [show (mainIx 5).toNat = 0 by decide, hkid] at hunf
  generalize t.kids[0].kind = m at *
  rw [hL] at HW HWd ⊢
  have c1 : w.cell? ⟨b, o + 0, none⟩ = some (.int .i64 m) := c0
  rw [Nat.add_zero] at c1
  clear hc hp c0 hkid hl ha hk hL har
  by_cases hm4 : m = 4
  ·subst hm4
   have hr : Hid ((1 : Int) = R) := tuck (by rw [hunf]; decide)
   clear hunf
   go_enter Tryz.func50, Tryz.ntmps50
   go_wp2_with fail
   exact HW.out _ hr.out 0
  have hr : Hid ((0 : Int) = R) := tuck (by rw [hunf]; unfold redexK; (repeat' split) <;> omega)
  have g4 : (m == 4) = false := by simpa using hm4
  clear hunf
  go_enter Tryz.func50, Tryz.ntmps50
  go_wp2_with fail
  exact HW.out _ hr.out 0
 by_cases hk : t.kind = 9
 ·rw [hk] at ha hunf HW HWd ⊢
  have har : arity 9 = 4 := by decide
  have hL : t.kids.length = 4 := by omega
  obtain ⟨rfl, _, hbw⟩ := hp (by intro e; rw [e] at hL; simp at hL)
  obtain ⟨s', c0, -, -, -⟩ := hc 3 (by omega)
  have hkid := kidK_eq (l := t.kids) (i := 3) (by omega)
  rw [show (mainIx 9).toNat = 3 by decide, hkid] at hunf
  generalize t.kids[3].kind = m at *
  rw [hL] at HW HWd ⊢
  have c1 : w.cell? ⟨b, o + 9, none⟩ = some (.int .i64 m) := c0
  skip
  clear hc hp c0 hkid hl ha hk hL har
  by_cases hm7 : m = 7
  ·subst hm7
   have hr : Hid ((2 : Int) = R) := tuck (by rw [hunf]; decide)
   clear hunf
   go_enter Tryz.func50, Tryz.ntmps50
   go_wp2_with fail
   exact HW.out _ hr.out 0
  by_cases hm8 : m = 8
  ·subst hm8
   have hr : Hid ((3 : Int) = R) := tuck (by rw [hunf]; decide)
   clear hunf
   go_enter Tryz.func50, Tryz.ntmps50
   go_wp2_with fail
   exact HW.out _ hr.out 0
  have hr : Hid ((0 : Int) = R) := tuck (by rw [hunf]; unfold redexK; (repeat' split) <;> omega)
  have g7 : (m == 7) = false := by simpa using hm7
  have g8 : (m == 8) = false := by simpa using hm8
  clear hunf
  go_enter Tryz.func50, Tryz.ntmps50
  go_wp2_with fail
  exact HW.out _ hr.out 0
 by_cases hk : t.kind = 12
 ·rw [hk] at ha hunf HW HWd ⊢
  have har : arity 12 = 3 := by decide
  have hL : t.kids.length = 3 := by omega
  obtain ⟨rfl, _, hbw⟩ := hp (by intro e; rw [e] at hL; simp at hL)
  obtain ⟨s', c0, -, -, -⟩ := hc 1 (by omega)
  have hkid := kidK_eq (l := t.kids) (i := 1) (by omega)
  rw [show (mainIx 12).toNat = 1 by decide, hkid] at hunf
  generalize t.kids[1].kind = m at *
  rw [hL] at HW HWd ⊢
  have c1 : w.cell? ⟨b, o + 3, none⟩ = some (.int .i64 m) := c0
  skip
  clear hc hp c0 hkid hl ha hk hL har
  by_cases hm11 : m = 11
  ·subst hm11
   have hr : Hid ((4 : Int) = R) := tuck (by rw [hunf]; decide)
   clear hunf
   go_enter Tryz.func50, Tryz.ntmps50
   go_wp2_with fail
   exact HW.out _ hr.out 0
  have hr : Hid ((0 : Int) = R) := tuck (by rw [hunf]; unfold redexK; (repeat' split) <;> omega)
  have g11 : (m == 11) = false := by simpa using hm11
  clear hunf
  go_enter Tryz.func50, Tryz.ntmps50
  go_wp2_with fail
  exact HW.out _ hr.out 0
 by_cases hk : t.kind = 15
 ·rw [hk] at ha hunf HW HWd ⊢
  have har : arity 15 = 1 := by decide
  have hL : t.kids.length = 1 := by omega
  obtain ⟨rfl, _, hbw⟩ := hp (by intro e; rw [e] at hL; simp at hL)
  obtain ⟨s', c0, -, -, -⟩ := hc 0 (by omega)
  have hkid := kidK_eq (l := t.kids) (i := 0) (by omega)
  rw [show (mainIx 15).toNat = 0 by decide, hkid] at hunf
  generalize t.kids[0].kind = m at *
  rw [hL] at HW HWd ⊢
  have c1 : w.cell? ⟨b, o + 0, none⟩ = some (.int .i64 m) := c0
  rw [Nat.add_zero] at c1
  clear hc hp c0 hkid hl ha hk hL har
  by_cases hm14 : m = 14
  ·subst hm14
   have hr : Hid ((5 : Int) = R) := tuck (by rw [hunf]; decide)
   clear hunf
   go_enter Tryz.func50, Tryz.ntmps50
   go_wp2_with fail
   exact HW.out _ hr.out 0
  have hr : Hid ((0 : Int) = R) := tuck (by rw [hunf]; unfold redexK; (repeat' split) <;> omega)
  have g14 : (m == 14) = false := by simpa using hm14
  clear hunf
  go_enter Tryz.func50, Tryz.ntmps50
  go_wp2_with fail
  exact HW.out _ hr.out 0
 by_cases hk : t.kind = 16
 ·rw [hk] at ha hunf HW HWd ⊢
  have har : arity 16 = 1 := by decide
  have hL : t.kids.length = 1 := by omega
  obtain ⟨rfl, _, hbw⟩ := hp (by intro e; rw [e] at hL; simp at hL)
  obtain ⟨s', c0, -, -, -⟩ := hc 0 (by omega)
  have hkid := kidK_eq (l := t.kids) (i := 0) (by omega)
  rw [show (mainIx 16).toNat = 0 by decide, hkid] at hunf
  generalize t.kids[0].kind = m at *
  rw [hL] at HW HWd ⊢
  have c1 : w.cell? ⟨b, o + 0, none⟩ = some (.int .i64 m) := c0
  rw [Nat.add_zero] at c1
  clear hc hp c0 hkid hl ha hk hL har
  by_cases hm14 : m = 14
  ·subst hm14
   have hr : Hid ((6 : Int) = R) := tuck (by rw [hunf]; decide)
   clear hunf
   go_enter Tryz.func50, Tryz.ntmps50
   go_wp2_with fail
   exact HW.out _ hr.out 0
  have hr : Hid ((0 : Int) = R) := tuck (by rw [hunf]; unfold redexK; (repeat' split) <;> omega)
  have g14 : (m == 14) = false := by simpa using hm14
  clear hunf
  go_enter Tryz.func50, Tryz.ntmps50
  go_wp2_with fail
  exact HW.out _ hr.out 0
 have hr : Hid ((0 : Int) = R) := tuck (by rw [hunf]; unfold redexK; (repeat' split) <;> omega)
 have g5 : (t.kind == 5) = false := by simpa using ‹¬ t.kind = 5›
 have g9 : (t.kind == 9) = false := by simpa using ‹¬ t.kind = 9›
 have g12 : (t.kind == 12) = false := by simpa using ‹¬ t.kind = 12›
 have g15 : (t.kind == 15) = false := by simpa using ‹¬ t.kind = 15›
 have g16 : (t.kind == 16) = false := by simpa using ‹¬ t.kind = 16›
 clear hunf hc hp ha hl
 generalize t.kind = k at *
 generalize t.kids.length = L at *
 go_enter Tryz.func50, Tryz.ntmps50
 go_wp2_with fail
 exact HW.out _ hr.out 0
set_option maxRecDepth 100000 in
set_option maxHeartbeats 1600000 in
theorem redI_any (t : Tm) (ht : t.rootOk) (w : World) (s : Value) (hs : SlIn w 0 t.kids s) : Calls Tryz.prog 54 #[.agg #[.int .i64 t.kind, .int .i64 t.num, s]] w (IntPost w t.redex) := by
 obtain ⟨a, cap, b, o, rfl, hl, hp, hc⟩ := hs.open
 have ha : arity t.kind = t.kids.length := ht.1
 have HW : Hid (∀ r : Int, r = t.redex → ∀ n : Nat, IntPost w t.redex (.returned (.int .i64 r)) (w.alloc (.cells #[.int .i64 t.kind, .int .i64 t.num, .slice a t.kids.length cap] 25))) := tuck fun r h _ => ⟨by rw [h], below1 _ _⟩
 have HWd : Hid (∀ r : Int, r = t.redex → IntPost w t.redex (.returned (.int .i64 r)) (w.alloc (.cells #[.int .i64 t.kind, .int .i64 t.num, .slice a t.kids.length cap] 25)).drew) := tuck fun r h => ⟨by rw [h], (below1 _ _).drew⟩
 have hunf : t.redex = redexK t.kind (kidK t.kids (mainIx t.kind).toNat) := rfl
 clear hs ht
 generalize IntPost w t.redex = post at *
 generalize t.redex = R at *
 generalize t.num = n at *
 by_cases hk : t.kind = 5
 ·rw [hk] at ha hunf HW HWd ⊢
  have har : arity 5 = 2 := by decide
  have hL : t.kids.length = 2 := by omega
  obtain ⟨rfl, _, hbw⟩ := hp (by intro e; rw [e] at hL; simp at hL)
  obtain ⟨s', c0, -, -, -⟩ := hc 0 (by omega)
  have hkid := kidK_eq (l := t.kids) (i := 0) (by omega)
  rw [show (mainIx 5).toNat = 0 by decide, hkid] at hunf
  generalize t.kids[0].kind = m at *
  rw [hL] at HW HWd ⊢
  have c1 : w.cell? ⟨b, o + 0, none⟩ = some (.int .i64 m) := c0
  rw [Nat.add_zero] at c1
  clear hc hp c0 hkid hl ha hk hL har
  by_cases hm4 : m = 4
  ·subst hm4
   have hr : Hid ((1 : Int) = R) := tuck (by rw [hunf]; decide)
   clear hunf
   go_enter Tryz.func54, Tryz.ntmps54
   go_wp2_with fail
   refine (main_any 5 _).mono ?_
   rintro e w1 ⟨rfl, rfl⟩
   rw [show mainIx 5 = 0 by decide]
   go_wp2_with fail
   go_region
   go_wp2_with fail
   exact HWd.out _ hr.out
  have hr : Hid ((0 : Int) = R) := tuck (by rw [hunf]; unfold redexK; (repeat' split) <;> omega)
  have g4 : (m == 4) = false := by simpa using hm4
  clear hunf
  go_enter Tryz.func54, Tryz.ntmps54
  go_wp2_with fail
  refine (main_any 5 _).mono ?_
  rintro e w1 ⟨rfl, rfl⟩
  rw [show mainIx 5 = 0 by decide]
  go_wp2_with fail
  go_region
  go_wp2_with fail
  exact HWd.out _ hr.out
 by_cases hk : t.kind = 9
 ·rw [hk] at ha hunf HW HWd ⊢
  have har : arity 9 = 4 := by decide
  have hL : t.kids.length = 4 := by omega
  obtain ⟨rfl, _, hbw⟩ := hp (by intro e; rw [e] at hL; simp at hL)
  obtain ⟨s', c0, -, -, -⟩ := hc 3 (by omega)
  have hkid := kidK_eq (l := t.kids) (i := 3) (by omega)
  rw [show (mainIx 9).toNat = 3 by decide, hkid] at hunf
  generalize t.kids[3].kind = m at *
  rw [hL] at HW HWd ⊢
  have c1 : w.cell? ⟨b, o + 9, none⟩ = some (.int .i64 m) := c0
  skip
  clear hc hp c0 hkid hl ha hk hL har
  by_cases hm7 : m = 7
  ·subst hm7
   have hr : Hid ((2 : Int) = R) := tuck (by rw [hunf]; decide)
   clear hunf
   go_enter Tryz.func54, Tryz.ntmps54
   go_wp2_with fail
   refine (main_any 9 _).mono ?_
   rintro e w1 ⟨rfl, rfl⟩
   rw [show mainIx 9 = 3 by decide]
   go_wp2_with fail
   go_region
   go_wp2_with fail
   exact HWd.out _ hr.out
  by_cases hm8 : m = 8
  ·subst hm8
   have hr : Hid ((3 : Int) = R) := tuck (by rw [hunf]; decide)
   clear hunf
   go_enter Tryz.func54, Tryz.ntmps54
   go_wp2_with fail
   refine (main_any 9 _).mono ?_
   rintro e w1 ⟨rfl, rfl⟩
   rw [show mainIx 9 = 3 by decide]
   go_wp2_with fail
   go_region
   go_wp2_with fail
   exact HWd.out _ hr.out
  have hr : Hid ((0 : Int) = R) := tuck (by rw [hunf]; unfold redexK; (repeat' split) <;> omega)
  have g7 : (m == 7) = false := by simpa using hm7
  have g8 : (m == 8) = false := by simpa using hm8
  clear hunf
  go_enter Tryz.func54, Tryz.ntmps54
  go_wp2_with fail
  refine (main_any 9 _).mono ?_
  rintro e w1 ⟨rfl, rfl⟩
  rw [show mainIx 9 = 3 by decide]
  go_wp2_with fail
  go_region
  go_wp2_with fail
  exact HWd.out _ hr.out
 by_cases hk : t.kind = 12
 ·rw [hk] at ha hunf HW HWd ⊢
  have har : arity 12 = 3 := by decide
  have hL : t.kids.length = 3 := by omega
  obtain ⟨rfl, _, hbw⟩ := hp (by intro e; rw [e] at hL; simp at hL)
  obtain ⟨s', c0, -, -, -⟩ := hc 1 (by omega)
  have hkid := kidK_eq (l := t.kids) (i := 1) (by omega)
  rw [show (mainIx 12).toNat = 1 by decide, hkid] at hunf
  generalize t.kids[1].kind = m at *
  rw [hL] at HW HWd ⊢
  have c1 : w.cell? ⟨b, o + 3, none⟩ = some (.int .i64 m) := c0
  skip
  clear hc hp c0 hkid hl ha hk hL har
  by_cases hm11 : m = 11
  ·subst hm11
   have hr : Hid ((4 : Int) = R) := tuck (by rw [hunf]; decide)
   clear hunf
   go_enter Tryz.func54, Tryz.ntmps54
   go_wp2_with fail
   refine (main_any 12 _).mono ?_
   rintro e w1 ⟨rfl, rfl⟩
   rw [show mainIx 12 = 1 by decide]
   go_wp2_with fail
   go_region
   go_wp2_with fail
   exact HWd.out _ hr.out
  have hr : Hid ((0 : Int) = R) := tuck (by rw [hunf]; unfold redexK; (repeat' split) <;> omega)
  have g11 : (m == 11) = false := by simpa using hm11
  clear hunf
  go_enter Tryz.func54, Tryz.ntmps54
  go_wp2_with fail
  refine (main_any 12 _).mono ?_
  rintro e w1 ⟨rfl, rfl⟩
  rw [show mainIx 12 = 1 by decide]
  go_wp2_with fail
  go_region
  go_wp2_with fail
  exact HWd.out _ hr.out
 by_cases hk : t.kind = 15
 ·rw [hk] at ha hunf HW HWd ⊢
  have har : arity 15 = 1 := by decide
  have hL : t.kids.length = 1 := by omega
  obtain ⟨rfl, _, hbw⟩ := hp (by intro e; rw [e] at hL; simp at hL)
  obtain ⟨s', c0, -, -, -⟩ := hc 0 (by omega)
  have hkid := kidK_eq (l := t.kids) (i := 0) (by omega)
  rw [show (mainIx 15).toNat = 0 by decide, hkid] at hunf
  generalize t.kids[0].kind = m at *
  rw [hL] at HW HWd ⊢
  have c1 : w.cell? ⟨b, o + 0, none⟩ = some (.int .i64 m) := c0
  rw [Nat.add_zero] at c1
  clear hc hp c0 hkid hl ha hk hL har
  by_cases hm14 : m = 14
  ·subst hm14
   have hr : Hid ((5 : Int) = R) := tuck (by rw [hunf]; decide)
   clear hunf
   go_enter Tryz.func54, Tryz.ntmps54
   go_wp2_with fail
   refine (main_any 15 _).mono ?_
   rintro e w1 ⟨rfl, rfl⟩
   rw [show mainIx 15 = 0 by decide]
   go_wp2_with fail
   go_region
   go_wp2_with fail
   exact HWd.out _ hr.out
  have hr : Hid ((0 : Int) = R) := tuck (by rw [hunf]; unfold redexK; (repeat' split) <;> omega)
  have g14 : (m == 14) = false := by simpa using hm14
  clear hunf
  go_enter Tryz.func54, Tryz.ntmps54
  go_wp2_with fail
  refine (main_any 15 _).mono ?_
  rintro e w1 ⟨rfl, rfl⟩
  rw [show mainIx 15 = 0 by decide]
  go_wp2_with fail
  go_region
  go_wp2_with fail
  exact HWd.out _ hr.out
 by_cases hk : t.kind = 16
 ·rw [hk] at ha hunf HW HWd ⊢
  have har : arity 16 = 1 := by decide
  have hL : t.kids.length = 1 := by omega
  obtain ⟨rfl, _, hbw⟩ := hp (by intro e; rw [e] at hL; simp at hL)
  obtain ⟨s', c0, -, -, -⟩ := hc 0 (by omega)
  have hkid := kidK_eq (l := t.kids) (i := 0) (by omega)
  rw [show (mainIx 16).toNat = 0 by decide, hkid] at hunf
  generalize t.kids[0].kind = m at *
  rw [hL] at HW HWd ⊢
  have c1 : w.cell? ⟨b, o + 0, none⟩ = some (.int .i64 m) := c0
  rw [Nat.add_zero] at c1
  clear hc hp c0 hkid hl ha hk hL har
  by_cases hm14 : m = 14
  ·subst hm14
   have hr : Hid ((6 : Int) = R) := tuck (by rw [hunf]; decide)
   clear hunf
   go_enter Tryz.func54, Tryz.ntmps54
   go_wp2_with fail
   refine (main_any 16 _).mono ?_
   rintro e w1 ⟨rfl, rfl⟩
   rw [show mainIx 16 = 0 by decide]
   go_wp2_with fail
   go_region
   go_wp2_with fail
   exact HWd.out _ hr.out
  have hr : Hid ((0 : Int) = R) := tuck (by rw [hunf]; unfold redexK; (repeat' split) <;> omega)
  have g14 : (m == 14) = false := by simpa using hm14
  clear hunf
  go_enter Tryz.func54, Tryz.ntmps54
  go_wp2_with fail
  refine (main_any 16 _).mono ?_
  rintro e w1 ⟨rfl, rfl⟩
  rw [show mainIx 16 = 0 by decide]
  go_wp2_with fail
  go_region
  go_wp2_with fail
  exact HWd.out _ hr.out
 have hr : Hid ((0 : Int) = R) := tuck (by rw [hunf]; unfold redexK; (repeat' split) <;> omega)
 have hmi : mainIx t.kind = -1 := by unfold mainIx; (repeat' split) <;> omega
 have HM : Hid (∀ w : World, Calls Tryz.prog 65 #[.int .i64 t.kind] w fun e w' => e = .returned (.tuple #[.int .i64 0, .bool false]) ∧ w = w') := tuck fun w => by
  have h := main_any t.kind w
  rw [hmi] at h
  simpa using h
 clear hunf hc hp ha hmi hl
 generalize t.kind = k at *
 generalize t.kids.length = L at *
 go_enter Tryz.func54, Tryz.ntmps54
 go_wp2_with fail
 refine (HM.out _).mono ?_
 rintro e w1 ⟨rfl, rfl⟩
 go_wp2_with fail
 exact HW.out _ hr.out 0
end Go.Proofs.YtlbikgnanabjgaaGreat
