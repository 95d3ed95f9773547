/-
  The law FnTraceTerm: whatever the bytes, a trace is its model's, and its terms are steps.
-/
import Derived.Test.YtlbikgnanabjgaaGreatQ46
import Derived.Test.YtlbikgnanabjgaaGreatQ51
import Derived.Test.YtlbikgnanabjgaaGreatQ53
import Derived.IntWalk
namespace Go.Proofs.YtlbikgnanabjgaaGreat.fnTraceTerm
open Go.ChangeShapes Go.WideShapes Go.ChangeAt Go.RowKit Go.Deep
set_option linter.unusedVariables false
theorem readable_FnTraceTerm : ∀ t ∈ (#[22] : Array TypeId).toList, Tryz.prog.readableRec t = true ∧ t < Tryz.prog.types.size := by
 intro t ht
 simp at ht
 subst ht
 exact ⟨by kernel_rfl, of_decide_eq_true (by kernel_rfl)⟩
theorem laid : laidOutB Tryz.prog = true := by kernel_rfl
set_option maxRecDepth 100000 in
set_option maxHeartbeats 6000000 in
theorem walk (U : Nat → Int) (a : Option Addr) (b o len cap : Nat) (w : World) (hlc : len ≤ cap) (hcm : cap ≤ maxLen) (hby : Bytes U a b o len w) : Calls Tryz.prog 3 #[.slice a len cap] w fun e w' => e = .returned (.bool true) ∧ Below w.heap.size w w' := by
 unfold maxLen at hcm
 by_cases hl : 1048576 < len
 ·have hl' : (1048576 : Int) < (len : Int) := by omega
  clear hby
  go_enter Tryz.func3, Tryz.ntmps3
  go_wp2
  go_ret
  exact ⟨rfl, Below.refl _ _⟩
 have hl' : ¬ (1048576 : Int) < (len : Int) := by omega
 have HD := tuck (dTraceTerm_any w (by omega) hlc hby)
 clear hby
 go_enter Tryz.func3, Tryz.ntmps3
 go_wp2_with fail
 refine HD.out.mono ?_
 rintro e w1 ⟨T, v, rfl, ⟨s, rfl, hin⟩, hsz, hb⟩
 obtain ⟨aV, cV, rfl⟩ := hin.form
 have V := tuck (TV.new (hin.mono (Nat.zero_le _)))
 have HB := tuck (bAfter hb (below1 w1 (.cells #[.int .i64 T.kind, .int .i64 T.num, .slice aV T.kids.length cV] 25)))
 have HSZ : Hid (sizes T.kids ≤ 1048576) := tuck (by have := T.size_eq; omega)
 clear hin hb HD hsz
 go_wp2_with fail
 generalize w1.alloc (.cells #[.int .i64 T.kind, .int .i64 T.num, .slice aV T.kids.length cV] 25) = U0 at *
 generalize w1.heap.size = gV at *
 obtain ⟨L, hL⟩ : ∃ L, L = traceL T := ⟨_, rfl⟩
 have HTI : Hid (∀ (w : World) (v : Value), TmIn w 0 T v → Calls Tryz.prog 6 #[v] w (fun e w' => Below w.heap.size w w' ∧ ∃ (aL : Option Addr) (cL : Nat), e = .returned (.slice aL L.length cL) ∧ SlIn w' 0 L (.slice aL L.length cL))) := fun w v h => (traceI_any T w v h).mono fun e w' h1 => by obtain ⟨hb, a, c, F, rfl, hs, -, -⟩ := h1; rw [← hL] at hs ⊢; exact ⟨hb, a, c, rfl, hs.sl fun g _ => Nat.zero_le g⟩
 have HTS : Hid (∀ (w : World) (v : Value), TmIn w 0 T v → Calls Tryz.prog 7 #[v] w (fun e w' => Below w.heap.size w w' ∧ ∃ (aL : Option Addr) (cL : Nat), e = .returned (.slice aL L.length cL) ∧ SlIn w' 0 L (.slice aL L.length cL))) := fun w v h => (traceS_any T w v h).mono fun e w' h1 => by obtain ⟨hb, a, c, rfl, hs⟩ := h1; rw [← hL] at hs ⊢; exact ⟨hb, a, c, rfl, hs.mono (Nat.zero_le _)⟩
 obtain ⟨hall, hnx, h12, hend⟩ := trace_facts hL
 clear hL
 have HSM : Hid (∀ (q : Nat) (h : q < L.length) (w : World) (v1 v2 : Value), TmIn w 0 L[q] v1 → TmIn w 0 L[q] v2 → Calls Tryz.prog 8 #[v1, v2] w (BoolPost w true)) := tuck fun q h => (same_v (hall _ (List.getElem_mem h)))
 have HNX : Hid (∀ (q : Nat) (h : q + 1 < L.length) (w : World) (v : Value), TmIn w 0 (L[q]'(by omega)) v → Calls Tryz.prog 9 #[v] w (SCodePost w 1 L[q + 1])) := tuck fun q h w v h1 => by have h2 := stepI_p _ w v h1; rwa [hnx q h] at h2
 have g3 : ((L.length : Int) != (L.length : Int)) = false := by simp
 clear hnx hall
 refine (HTI.out _ _ V.out.tm).mono ?_
 rintro e u1 ⟨hb, aSL, cSL, rfl, hin⟩
 replace V := tuck (V.out.below hb)
 replace HB := tuck (bAfter HB.out hb)
 have SL := tuck hin
 clear hb hin
 obtain ⟨zV, c0V, c1V, c2V, cfV⟩ := V.out.facts
 go_wp2_with fail
 refine (HTS.out _ _ V.out.tm).mono ?_
 rintro e u2 ⟨hb, aSW, cSW, rfl, hin⟩
 clear zV c0V c1V c2V cfV
 replace V := tuck (V.out.below hb)
 replace SL := tuck (SL.out.below hb)
 replace HB := tuck (bAfter HB.out hb)
 have SW := tuck hin
 clear hb hin
 obtain ⟨zV, c0V, c1V, c2V, cfV⟩ := V.out.facts
 go_wp2_with fail
 clear zV c0V c1V c2V cfV
 clear HTI HTS
 obtain ⟨aa1, cc1, b1, o1, hsl, -, hp1, hc1⟩ := SL.out.open
 cases hsl
 obtain ⟨aa2, cc2, b2, o2, hsw, -, hp2, hc2⟩ := SW.out.open
 cases hsw
 have HP1 := tuck hp1
 have HP2 := tuck hp2
 have HC1 := tuck hc1
 have HC2 := tuck hc2
 have HE := tuck hend
 clear hp1 hp2 hc1 hc2 hend
 go_loopw [6] (fun i wr => ∃ q : Nat, q ≤ L.length ∧ i = .int .i64 q ∧ Below u2.heap.size u2 wr) (fun i _ => L.length - (intOf i).toNat)
 case atStart => exact ⟨0, Nat.zero_le _, rfl, Below.refl _ _⟩
 case round =>
  obtain ⟨q, hq, rfl, hb⟩ := hrel
  by_cases hlt : q < L.length
  ·skip
   have hlti : ((q : Int) < (L.length : Int)) := by omega
   obtain ⟨rfl, _, hbw1⟩ := HP1.out (by intro e; rw [e] at hlt; simp at hlt)
   obtain ⟨rfl, _, hbw2⟩ := HP2.out (by intro e; rw [e] at hlt; simp at hlt)
   obtain ⟨s1, c0, c1, c2, hs1⟩ := HC1.out q hlt
   obtain ⟨s2, d0, d1, d2, hs2⟩ := HC2.out q hlt
   replace c0 := (hb.cell (p := ⟨b1, o1 + q * 3, none⟩) hbw1).trans c0
   replace c1 := (hb.cell (p := ⟨b1, o1 + q * 3 + 1, none⟩) hbw1).trans c1
   replace c2 := (hb.cell (p := ⟨b1, o1 + q * 3 + 2, none⟩) hbw1).trans c2
   replace d0 := (hb.cell (p := ⟨b2, o2 + q * 3, none⟩) hbw2).trans d0
   replace d1 := (hb.cell (p := ⟨b2, o2 + q * 3 + 1, none⟩) hbw2).trans d1
   replace d2 := (hb.cell (p := ⟨b2, o2 + q * 3 + 2, none⟩) hbw2).trans d2
   have HS := tuck (hs1.below hb)
   have HS' := tuck (hs2.below hb)
   have HX := tuck (HSM.out q hlt)
   have HBR := tuck hb
   clear hb hs1 hs2 HC2
   obtain ⟨x, hx⟩ : ∃ x, x = L[q] := ⟨_, rfl⟩
   rw [← hx] at HX HS HS' c0 c1 d0 d1
   obtain ⟨sa, sc, rfl⟩ := HS.out.form
   obtain ⟨sa', sc', rfl⟩ := HS'.out.form
   by_cases hq0 : q = 0
   ·skip
    have hposi : decide ((0 : Int) < (q : Int)) = false := decide_eq_false (by omega)
    have hposn : decide (0 < q) = false := decide_eq_false (by omega)
    clear hq0 hx
    go_wp2_with fail
    go_still_tail 8, (by kernel_rfl)
    change wpList _ _ _ _ _ wr.drew
    go_wp2_with fail
    refine (HX.out wr.drew _ _ ⟨_, rfl, HS.out.below (Below.refl _ _).drew⟩ ⟨_, rfl, HS'.out.below (Below.refl _ _).drew⟩).mono ?_
    rintro e w3 ⟨rfl, hb3⟩
    have HB3 := tuck (bAfter HBR.out.drew hb3)
    clear hb3 c0 c1 c2 d0 d1 d2
    go_wp2_with fail
    go_roundw
    case rel => exact ⟨q + 1, by omega, by go_num, HB3.out⟩
    case measure => simp [intOf]; omega
   ·skip
    have hpos : (0 : Int) < (q : Int) := by omega
    obtain ⟨p, hqp⟩ : ∃ p, q = p + 1 := ⟨q - 1, by omega⟩
    have hp1 : (q : Int) - 1 = (p : Int) := by omega
    have HN : Hid (∀ (w : World) (v : Value), TmIn w 0 (L[p]'(by omega)) v → Calls Tryz.prog 9 #[v] w (SCodePost w 1 x)) := tuck (by subst hqp; rw [hx]; exact HNX.out p hlt)
    obtain ⟨s3, f0, f1, f2, hs3⟩ := HC1.out p (by omega)
    clear HC1
    obtain ⟨y, hy⟩ : ∃ y, y = L[p]'(by omega) := ⟨_, rfl⟩
    rw [← hy] at HN f0 f1 hs3
    obtain ⟨sy, cy, rfl⟩ := hs3.form
    have HSY := tuck hs3
    clear hs3 hq0 hqp hy hx
    have F0 := tuck f0
    have F1 := tuck f1
    have F2 := tuck f2
    clear f0 f1 f2
    go_wp2_with fail
    go_still_tail 8, (by kernel_rfl)
    change wpList _ _ _ _ _ wr.drew
    go_wp2_with fail
    refine (HX.out wr.drew _ _ ⟨_, rfl, HS.out.below (Below.refl _ _).drew⟩ ⟨_, rfl, HS'.out.below (Below.refl _ _).drew⟩).mono ?_
    rintro e w3 ⟨rfl, hb3⟩
    have HB3 := tuck (bAfter HBR.out.drew hb3)
    have C0 := tuck ((hb3.cell (p := ⟨b1, o1 + q * 3, none⟩) (by have := HBR.out.size; exact Nat.lt_of_lt_of_le hbw1 this)).trans c0)
    have C1 := tuck ((hb3.cell (p := ⟨b1, o1 + q * 3 + 1, none⟩) (by have := HBR.out.size; exact Nat.lt_of_lt_of_le hbw1 this)).trans c1)
    have C2 := tuck ((hb3.cell (p := ⟨b1, o1 + q * 3 + 2, none⟩) (by have := HBR.out.size; exact Nat.lt_of_lt_of_le hbw1 this)).trans c2)
    replace HS := tuck ((HS.out.below (Below.refl _ _).drew).below hb3)
    clear hb3 c0 c1 c2 d0 d1 d2 HS'
    have f0 := (HB3.out.cell (p := ⟨b1, o1 + p * 3, none⟩) hbw1).trans F0.out
    have f1 := (HB3.out.cell (p := ⟨b1, o1 + p * 3 + 1, none⟩) hbw1).trans F1.out
    have f2 := (HB3.out.cell (p := ⟨b1, o1 + p * 3 + 2, none⟩) hbw1).trans F2.out
    go_wp2_with fail
    refine (HN.out _ _ ⟨_, rfl, HSY.out.below HB3.out⟩).mono ?_
    rintro e w4 ⟨hb4, vv, rfl, ss, rfl, hin⟩
    obtain ⟨aN, cN, rfl⟩ := hin.form
    clear f0 f1 f2
    have HIN := tuck hin
    have hz3 : b1 < w3.heap.size := Nat.lt_of_lt_of_le hbw1 HB3.out.size
    have HB4 := tuck (bAfter HB3.out hb4)
    replace C0 := tuck ((hb4.cell (p := ⟨b1, o1 + q * 3, none⟩) hz3).trans C0.out)
    replace C1 := tuck ((hb4.cell (p := ⟨b1, o1 + q * 3 + 1, none⟩) hz3).trans C1.out)
    replace C2 := tuck ((hb4.cell (p := ⟨b1, o1 + q * 3 + 2, none⟩) hz3).trans C2.out)
    replace HS := tuck (HS.out.below hb4)
    have hz4 : b1 < w4.heap.size := Nat.lt_of_lt_of_le hz3 hb4.size
    clear hb4 hin
    go_wp2_with fail
    have VN := tuck (TV.new HIN.out)
    have hb5 := below1 w4 (.cells #[.int .i64 x.kind, .int .i64 x.num, .slice aN x.kids.length cN] 25)
    have HB5 := tuck (bAfter HB4.out hb5)
    have c0 := (hb5.cell (p := ⟨b1, o1 + q * 3, none⟩) hz4).trans C0.out
    have c1 := (hb5.cell (p := ⟨b1, o1 + q * 3 + 1, none⟩) hz4).trans C1.out
    have c2 := (hb5.cell (p := ⟨b1, o1 + q * 3 + 2, none⟩) hz4).trans C2.out
    replace HS := tuck (HS.out.below hb5)
    clear hb5 HIN C0 C1 C2
    generalize w4.alloc (.cells #[.int .i64 x.kind, .int .i64 x.num, .slice aN x.kids.length cN] 25) = U4 at *
    generalize w4.heap.size = gN at *
    obtain ⟨zN, n0, n1, n2, nf⟩ := VN.out.facts
    go_still_tail 8, (by kernel_rfl)
    change wpList _ _ _ _ _ U4.drew
    go_wp2_with fail
    refine (HX.out U4.drew _ _ ⟨_, rfl, VN.out.sl.below (Below.refl _ _).drew⟩ ⟨_, rfl, HS.out.below (Below.refl _ _).drew⟩).mono ?_
    rintro e w6 ⟨rfl, hb6⟩
    have HB6 := tuck (bAfter HB5.out.drew hb6)
    clear hb6 c0 c1 c2 zN n0 n1 n2 nf
    go_wp2_with fail
    go_roundw
    case rel => exact ⟨q + 1, by omega, by go_num, HB6.out⟩
    case measure => simp [intOf]; omega
  ·skip
   have hge2 : ¬ ((q : Int) < (L.length : Int)) := by omega
   replace V := tuck (V.out.below hb)
   replace HB := tuck (bAfter HB.out hb)
   have HBR := tuck hb
   clear hb HNX HC2 HP2
   go_upto_region 11 with fail
   rcases HE.out with ⟨hv, hl0, he⟩ | ⟨hv, hl0⟩
   ·skip
    have HVL : Hid (∀ (w : World) (v : Value), TmIn w 0 T v → Calls Tryz.prog 10 #[v] w (BoolPost w true)) := tuck fun w v h => by
     have h2 := validI_any T w v h; rwa [tr_of hv] at h2
    have HX := tuck (HSM.out 0 hl0)
    obtain ⟨rfl, _, hbw1⟩ := HP1.out (by intro e; rw [e] at hl0; simp at hl0)
    obtain ⟨s1, c0, c1, c2, hs1⟩ := HC1.out 0 hl0
    rw [he] at HX c0 c1 hs1
    simp only [Nat.zero_mul, Nat.add_zero] at c0 c1 c2
    obtain ⟨sa, sc, rfl⟩ := hs1.form
    have HS := tuck (hs1.below HBR.out)
    have HQ := tuck (show b1 < wr.heap.size ∧ wr.cell? ⟨b1, o1, none⟩ = some (.int .i64 T.kind) ∧ wr.cell? ⟨b1, o1 + 1, none⟩ = some (.int .i64 T.num) ∧ wr.cell? ⟨b1, o1 + 2, none⟩ = some (.slice sa T.kids.length sc) from ⟨Nat.lt_of_lt_of_le hbw1 HBR.out.size, (HBR.out.cell (p := ⟨b1, o1, none⟩) hbw1).trans c0, (HBR.out.cell (p := ⟨b1, o1 + 1, none⟩) hbw1).trans c1, (HBR.out.cell (p := ⟨b1, o1 + 2, none⟩) hbw1).trans c2⟩)
    clear c0 c1 c2 hs1 hv he hge2 HC1
    have hl0i : (0 : Int) < (L.length : Int) := by omega
    have kA : decide ((0 : Int) < (L.length : Int)) = true := decide_eq_true hl0i
    have kZ : ((L.length : Int) == 0) = false := by rw [beq_eq_false_iff_ne]; omega
    have HT12 : ∀ w' : World, ((fun w' => Below wr.heap.size wr w' ∧ (gV < w'.heap.size ∧ w'.cell? ⟨gV, 0, none⟩ = some (.int .i64 T.kind) ∧ w'.cell? ⟨gV, 1, none⟩ = some (.int .i64 T.num) ∧ w'.cell? ⟨gV, 2, none⟩ = some (.slice aV T.kids.length cV)) ∧ (b1 < w'.heap.size ∧ w'.cell? ⟨b1, o1, none⟩ = some (.int .i64 T.kind) ∧ w'.cell? ⟨b1, o1 + 1, none⟩ = some (.int .i64 T.num) ∧ w'.cell? ⟨b1, o1 + 2, none⟩ = some (.slice sa T.kids.length sc)))) w' → ((fun w' => Below wr.heap.size wr w' ∧ (gV < w'.heap.size ∧ w'.cell? ⟨gV, 0, none⟩ = some (.int .i64 T.kind) ∧ w'.cell? ⟨gV, 1, none⟩ = some (.int .i64 T.num) ∧ w'.cell? ⟨gV, 2, none⟩ = some (.slice aV T.kids.length cV)) ∧ (b1 < w'.heap.size ∧ w'.cell? ⟨b1, o1, none⟩ = some (.int .i64 T.kind) ∧ w'.cell? ⟨b1, o1 + 1, none⟩ = some (.int .i64 T.num) ∧ w'.cell? ⟨b1, o1 + 2, none⟩ = some (.slice sa T.kids.length sc)))) w' := fun w' h => h
    refine AnyTwo.begin ((fun w' => Below wr.heap.size wr w' ∧ (gV < w'.heap.size ∧ w'.cell? ⟨gV, 0, none⟩ = some (.int .i64 T.kind) ∧ w'.cell? ⟨gV, 1, none⟩ = some (.int .i64 T.num) ∧ w'.cell? ⟨gV, 2, none⟩ = some (.slice aV T.kids.length cV)) ∧ (b1 < w'.heap.size ∧ w'.cell? ⟨b1, o1, none⟩ = some (.int .i64 T.kind) ∧ w'.cell? ⟨b1, o1 + 1, none⟩ = some (.int .i64 T.num) ∧ w'.cell? ⟨b1, o1 + 2, none⟩ = some (.slice sa T.kids.length sc)))) ((fun w' => Below wr.heap.size wr w' ∧ (gV < w'.heap.size ∧ w'.cell? ⟨gV, 0, none⟩ = some (.int .i64 T.kind) ∧ w'.cell? ⟨gV, 1, none⟩ = some (.int .i64 T.num) ∧ w'.cell? ⟨gV, 2, none⟩ = some (.slice aV T.kids.length cV)) ∧ (b1 < w'.heap.size ∧ w'.cell? ⟨b1, o1, none⟩ = some (.int .i64 T.kind) ∧ w'.cell? ⟨b1, o1 + 1, none⟩ = some (.int .i64 T.num) ∧ w'.cell? ⟨b1, o1 + 2, none⟩ = some (.slice sa T.kids.length sc)))) 18 (by kernel_rfl) ?_
    have hS1 : ((fun w' => Below wr.heap.size wr w' ∧ (gV < w'.heap.size ∧ w'.cell? ⟨gV, 0, none⟩ = some (.int .i64 T.kind) ∧ w'.cell? ⟨gV, 1, none⟩ = some (.int .i64 T.num) ∧ w'.cell? ⟨gV, 2, none⟩ = some (.slice aV T.kids.length cV)) ∧ (b1 < w'.heap.size ∧ w'.cell? ⟨b1, o1, none⟩ = some (.int .i64 T.kind) ∧ w'.cell? ⟨b1, o1 + 1, none⟩ = some (.int .i64 T.num) ∧ w'.cell? ⟨b1, o1 + 2, none⟩ = some (.slice sa T.kids.length sc)))) _ := ⟨(Below.refl _ _).drew, V.out.var.four, HQ.out⟩
    refine AnyTwo.tk HT12 (i := 0) (oi := ⟨some 61, _, _, _, _, _⟩) rfl (ph_one (by kernel_rfl) hS1) ?_
    try simp only [pts]
    refine AnyTwo.tk HT12 (i := 1) (oi := ⟨some 62, _, _, _, _, _⟩) rfl (ph_one (by kernel_rfl) hS1) ?_
    try simp only [pts]
    refine AnyTwo.takeAny HT12 (i := 2) (oi := ⟨some 63, _, _, _, _, _⟩) (v := .bool true) rfl (by kernel_rfl) (by kernel_rfl) (by decide +kernel) (by rfl) (fun _ _ _ h => h) (Or.inl ⟨by rfl, ?yva3⟩) (ph_one (by kernel_rfl) hS1) ?rva3
    case yva3 => (intro w hSw; (try dsimp only at hSw); go_simp; try simp [*])
    try simp only [pts]
    refine AnyTwo.tk HT12 (i := 3) (oi := ⟨some 64, _, _, _, _, _⟩) rfl (ph_one (by kernel_rfl) hS1) ?_
    try simp only [pts]
    refine AnyTwo.step (i := 4) (o := ⟨some 65, _, _, _, _, _⟩) (by kernel_rfl) rfl (fun K hK => ?_)
    go_simp
    refine (HVL.out _ _ ⟨_, rfl, V.out.sl.below hS1.1⟩).mono ?_
    rintro e w7 ⟨rfl, hb7⟩
    have hS1' : ((fun w' => Below wr.heap.size wr w' ∧ (gV < w'.heap.size ∧ w'.cell? ⟨gV, 0, none⟩ = some (.int .i64 T.kind) ∧ w'.cell? ⟨gV, 1, none⟩ = some (.int .i64 T.num) ∧ w'.cell? ⟨gV, 2, none⟩ = some (.slice aV T.kids.length cV)) ∧ (b1 < w'.heap.size ∧ w'.cell? ⟨b1, o1, none⟩ = some (.int .i64 T.kind) ∧ w'.cell? ⟨b1, o1 + 1, none⟩ = some (.int .i64 T.num) ∧ w'.cell? ⟨b1, o1 + 2, none⟩ = some (.slice sa T.kids.length sc)))) _ := ⟨bAfter hS1.1 hb7, BoxAt.below hS1.2.1 hb7, ⟨Nat.lt_of_lt_of_le hS1.2.2.1 hb7.size, (hb7.cell (p := ⟨b1, o1, none⟩) hS1.2.2.1).trans hS1.2.2.2.1, (hb7.cell (p := ⟨b1, o1 + 1, none⟩) hS1.2.2.1).trans hS1.2.2.2.2.1, (hb7.cell (p := ⟨b1, o1 + 2, none⟩) hS1.2.2.1).trans hS1.2.2.2.2.2⟩⟩
    refine hK.out _ _ (ph_one (by kernel_rfl) hS1') ?_
    clear hK K hS1
    have hS1 := hS1'
    clear hS1'
    try simp only [pts]
    refine AnyTwo.takeAny HT12 (i := 5) (oi := ⟨some 66, _, _, _, _, _⟩) (v := .bool true) rfl (by kernel_rfl) (by kernel_rfl) (by decide +kernel) (by rfl) (fun _ _ _ h => h) (Or.inl ⟨by rfl, ?yva5⟩) (ph_one (by kernel_rfl) hS1) ?rva5
    case yva5 => (intro w hSw; (try dsimp only at hSw); go_simp; try simp [*])
    try simp only [pts]
    refine AnyTwo.tk HT12 (i := 6) (oi := ⟨some 67, _, _, _, _, _⟩) rfl (ph_one (by kernel_rfl) hS1) ?_
    try simp only [pts]
    refine AnyTwo.tk HT12 (i := 7) (oi := ⟨some 68, _, _, _, _, _⟩) rfl (ph_one (by kernel_rfl) hS1) ?_
    try simp only [pts]
    refine AnyTwo.tk HT12 (i := 8) (oi := ⟨some 69, _, _, _, _, _⟩) rfl (ph_one (by kernel_rfl) hS1) ?_
    try simp only [pts]
    refine AnyTwo.takeAny HT12 (i := 9) (oi := ⟨some 70, _, _, _, _, _⟩) (v := .bool false) rfl (by kernel_rfl) (by kernel_rfl) (by decide +kernel) (by rfl) (fun _ _ _ h => h) (Or.inl ⟨by rfl, ?yva9⟩) (ph_one (by kernel_rfl) hS1) ?rva9
    case yva9 => (intro w hSw; (try dsimp only at hSw); go_simp; try simp [*])
    try simp only [pts]
    refine AnyTwo.tk HT12 (i := 10) (oi := ⟨some 71, _, _, _, _, _⟩) rfl (ph_one (by kernel_rfl) hS1) ?_
    try simp only [pts]
    refine AnyTwo.tk HT12 (i := 11) (oi := ⟨some 72, _, _, _, _, _⟩) rfl (ph_one (by kernel_rfl) hS1) ?_
    try simp only [pts]
    refine AnyTwo.tk HT12 (i := 12) (oi := ⟨some 73, _, _, _, _, _⟩) rfl (ph_one (by kernel_rfl) hS1) ?_
    try simp only [pts]
    refine AnyTwo.tk HT12 (i := 13) (oi := ⟨some 74, _, _, _, _, _⟩) rfl (ph_one (by kernel_rfl) hS1) ?_
    try simp only [pts]
    refine AnyTwo.tk HT12 (i := 14) (oi := ⟨some 75, _, _, _, _, _⟩) rfl (ph_one (by kernel_rfl) hS1) ?_
    try simp only [pts]
    refine AnyTwo.step (i := 15) (o := ⟨some 76, _, _, _, _, _⟩) (by kernel_rfl) rfl (fun K hK => ?_)
    go_simp
    refine (HX.out _ _ _ ⟨_, rfl, HS.out.below hS1.1⟩ ⟨_, rfl, V.out.sl.below hS1.1⟩).mono ?_
    rintro e w7 ⟨rfl, hb7⟩
    have hS1' : ((fun w' => Below wr.heap.size wr w' ∧ (gV < w'.heap.size ∧ w'.cell? ⟨gV, 0, none⟩ = some (.int .i64 T.kind) ∧ w'.cell? ⟨gV, 1, none⟩ = some (.int .i64 T.num) ∧ w'.cell? ⟨gV, 2, none⟩ = some (.slice aV T.kids.length cV)) ∧ (b1 < w'.heap.size ∧ w'.cell? ⟨b1, o1, none⟩ = some (.int .i64 T.kind) ∧ w'.cell? ⟨b1, o1 + 1, none⟩ = some (.int .i64 T.num) ∧ w'.cell? ⟨b1, o1 + 2, none⟩ = some (.slice sa T.kids.length sc)))) _ := ⟨bAfter hS1.1 hb7, BoxAt.below hS1.2.1 hb7, ⟨Nat.lt_of_lt_of_le hS1.2.2.1 hb7.size, (hb7.cell (p := ⟨b1, o1, none⟩) hS1.2.2.1).trans hS1.2.2.2.1, (hb7.cell (p := ⟨b1, o1 + 1, none⟩) hS1.2.2.1).trans hS1.2.2.2.2.1, (hb7.cell (p := ⟨b1, o1 + 2, none⟩) hS1.2.2.1).trans hS1.2.2.2.2.2⟩⟩
    refine hK.out _ _ (ph_one (by kernel_rfl) hS1') ?_
    clear hK K hS1
    have hS1 := hS1'
    clear hS1'
    try simp only [pts]
    refine AnyTwo.tk HT12 (i := 16) (oi := ⟨some 77, _, _, _, _, _⟩) rfl (ph_one (by kernel_rfl) hS1) ?_
    try simp only [pts]
    refine AnyTwo.tk HT12 (i := 17) (oi := ⟨some 78, _, _, _, _, _⟩) rfl (ph_one (by kernel_rfl) hS1) ?_
    try simp only [pts]
    refine AnyTwo.step (i := 18) (o := ⟨some 2, _, _, _, _, _⟩) (by kernel_rfl) rfl (fun K hK => ?_)
    go_simp
    refine hK.out _ _ (ph_end (by kernel_rfl) hS1) ?_
    clear hK K
    try simp only [pts]
    refine AnyTwo.done (by kernel_rfl) ?_ _
    clear HT12
    have hb := hS1.1
    replace HB := tuck (bAfter HB.out hb)
    clear hb hS1
    go_wp2_with fail
    go_ret
    exact ⟨rfl, HB.out⟩
   ·skip
    have HVL : Hid (∀ (w : World) (v : Value), TmIn w 0 T v → Calls Tryz.prog 10 #[v] w (BoolPost w false)) := tuck fun w v h => by
     have h2 := validI_any T w v h; rwa [tr_not hv] at h2
    have kA : decide ((0 : Int) < (L.length : Int)) = false := decide_eq_false (by omega)
    have kZ : ((L.length : Int) == 0) = true := by rw [hl0]; rfl
    have hLn : L = [] := List.eq_nil_of_length_eq_zero hl0
    clear hv hl0 hge2 HC1 HP1
    have HT12 : ∀ w' : World, ((fun w' => Below wr.heap.size wr w' ∧ (gV < w'.heap.size ∧ w'.cell? ⟨gV, 0, none⟩ = some (.int .i64 T.kind) ∧ w'.cell? ⟨gV, 1, none⟩ = some (.int .i64 T.num) ∧ w'.cell? ⟨gV, 2, none⟩ = some (.slice aV T.kids.length cV)))) w' → ((fun w' => Below wr.heap.size wr w' ∧ (gV < w'.heap.size ∧ w'.cell? ⟨gV, 0, none⟩ = some (.int .i64 T.kind) ∧ w'.cell? ⟨gV, 1, none⟩ = some (.int .i64 T.num) ∧ w'.cell? ⟨gV, 2, none⟩ = some (.slice aV T.kids.length cV)))) w' := fun w' h => h
    refine AnyTwo.begin ((fun w' => Below wr.heap.size wr w' ∧ (gV < w'.heap.size ∧ w'.cell? ⟨gV, 0, none⟩ = some (.int .i64 T.kind) ∧ w'.cell? ⟨gV, 1, none⟩ = some (.int .i64 T.num) ∧ w'.cell? ⟨gV, 2, none⟩ = some (.slice aV T.kids.length cV)))) ((fun w' => Below wr.heap.size wr w' ∧ (gV < w'.heap.size ∧ w'.cell? ⟨gV, 0, none⟩ = some (.int .i64 T.kind) ∧ w'.cell? ⟨gV, 1, none⟩ = some (.int .i64 T.num) ∧ w'.cell? ⟨gV, 2, none⟩ = some (.slice aV T.kids.length cV)))) 18 (by kernel_rfl) ?_
    have hS1 : ((fun w' => Below wr.heap.size wr w' ∧ (gV < w'.heap.size ∧ w'.cell? ⟨gV, 0, none⟩ = some (.int .i64 T.kind) ∧ w'.cell? ⟨gV, 1, none⟩ = some (.int .i64 T.num) ∧ w'.cell? ⟨gV, 2, none⟩ = some (.slice aV T.kids.length cV)))) _ := ⟨(Below.refl _ _).drew, V.out.var.four⟩
    refine AnyTwo.tk HT12 (i := 0) (oi := ⟨some 61, _, _, _, _, _⟩) rfl (ph_one (by kernel_rfl) hS1) ?_
    try simp only [pts]
    refine AnyTwo.tk HT12 (i := 1) (oi := ⟨some 62, _, _, _, _, _⟩) rfl (ph_one (by kernel_rfl) hS1) ?_
    try simp only [pts]
    refine AnyTwo.takeAny HT12 (i := 2) (oi := ⟨some 63, _, _, _, _, _⟩) (v := .bool false) rfl (by kernel_rfl) (by kernel_rfl) (by decide +kernel) (by rfl) (fun _ _ _ h => h) (Or.inl ⟨by rfl, ?yvb3⟩) (ph_one (by kernel_rfl) hS1) ?rvb3
    case yvb3 => (intro w hSw; (try dsimp only at hSw); go_simp; try simp [*])
    try simp only [pts]
    refine AnyTwo.tk HT12 (i := 3) (oi := ⟨some 64, _, _, _, _, _⟩) rfl (ph_one (by kernel_rfl) hS1) ?_
    try simp only [pts]
    refine AnyTwo.step (i := 4) (o := ⟨some 65, _, _, _, _, _⟩) (by kernel_rfl) rfl (fun K hK => ?_)
    go_simp
    refine (HVL.out _ _ ⟨_, rfl, V.out.sl.below hS1.1⟩).mono ?_
    rintro e w7 ⟨rfl, hb7⟩
    have hS1' : ((fun w' => Below wr.heap.size wr w' ∧ (gV < w'.heap.size ∧ w'.cell? ⟨gV, 0, none⟩ = some (.int .i64 T.kind) ∧ w'.cell? ⟨gV, 1, none⟩ = some (.int .i64 T.num) ∧ w'.cell? ⟨gV, 2, none⟩ = some (.slice aV T.kids.length cV)))) _ := ⟨bAfter hS1.1 hb7, BoxAt.below hS1.2 hb7⟩
    refine hK.out _ _ (ph_one (by kernel_rfl) hS1') ?_
    clear hK K hS1
    have hS1 := hS1'
    clear hS1'
    try simp only [pts]
    refine AnyTwo.takeAny HT12 (i := 5) (oi := ⟨some 66, _, _, _, _, _⟩) (v := .bool true) rfl (by kernel_rfl) (by kernel_rfl) (by decide +kernel) (by rfl) (fun _ _ _ h => h) (Or.inl ⟨by rfl, ?yvb5⟩) (ph_one (by kernel_rfl) hS1) ?rvb5
    case yvb5 => (intro w hSw; (try dsimp only at hSw); go_simp; try simp [*])
    try simp only [pts]
    refine AnyTwo.tk HT12 (i := 6) (oi := ⟨some 67, _, _, _, _, _⟩) rfl (ph_one (by kernel_rfl) hS1) ?_
    try simp only [pts]
    refine AnyTwo.tk HT12 (i := 7) (oi := ⟨some 68, _, _, _, _, _⟩) rfl (ph_one (by kernel_rfl) hS1) ?_
    try simp only [pts]
    refine AnyTwo.tk HT12 (i := 8) (oi := ⟨some 69, _, _, _, _, _⟩) rfl (ph_one (by kernel_rfl) hS1) ?_
    try simp only [pts]
    refine AnyTwo.takeAny HT12 (i := 9) (oi := ⟨some 70, _, _, _, _, _⟩) (v := .bool true) rfl (by kernel_rfl) (by kernel_rfl) (by decide +kernel) (by rfl) (fun _ _ _ h => h) (Or.inl ⟨by rfl, ?yvb9⟩) (ph_one (by kernel_rfl) hS1) ?rvb9
    case yvb9 => (intro w hSw; (try dsimp only at hSw); go_simp; try simp [*])
    try simp only [pts]
    refine AnyTwo.tk HT12 (i := 10) (oi := ⟨some 71, _, _, _, _, _⟩) rfl (ph_one (by kernel_rfl) hS1) ?_
    try simp only [pts]
    refine AnyTwo.sk HT12 (i := 11) (oi := ⟨some 72, _, _, _, _, _⟩) rfl (ph_one (by kernel_rfl) hS1) ?_
    try simp only [pts]
    refine AnyTwo.sk HT12 (i := 12) (oi := ⟨some 73, _, _, _, _, _⟩) rfl (ph_one (by kernel_rfl) hS1) ?_
    try simp only [pts]
    refine AnyTwo.sk HT12 (i := 13) (oi := ⟨some 74, _, _, _, _, _⟩) rfl (ph_one (by kernel_rfl) hS1) ?_
    try simp only [pts]
    refine AnyTwo.sk HT12 (i := 14) (oi := ⟨some 75, _, _, _, _, _⟩) rfl (ph_one (by kernel_rfl) hS1) ?_
    try simp only [pts]
    refine AnyTwo.sk HT12 (i := 15) (oi := ⟨some 76, _, _, _, _, _⟩) rfl (ph_one (by kernel_rfl) hS1) ?_
    try simp only [pts]
    refine AnyTwo.tk HT12 (i := 16) (oi := ⟨some 77, _, _, _, _, _⟩) rfl (ph_one (by kernel_rfl) hS1) ?_
    try simp only [pts]
    refine AnyTwo.tk HT12 (i := 17) (oi := ⟨some 78, _, _, _, _, _⟩) rfl (ph_one (by kernel_rfl) hS1) ?_
    try simp only [pts]
    refine AnyTwo.step (i := 18) (o := ⟨some 2, _, _, _, _, _⟩) (by kernel_rfl) rfl (fun K hK => ?_)
    go_simp
    refine hK.out _ _ (ph_end (by kernel_rfl) hS1) ?_
    clear hK K
    try simp only [pts]
    refine AnyTwo.done (by kernel_rfl) ?_ _
    clear HT12
    have hb := hS1.1
    replace HB := tuck (bAfter HB.out hb)
    clear hb hS1
    go_wp2_with fail
    go_ret
    exact ⟨rfl, HB.out⟩
set_option maxRecDepth 100000 in
theorem lifted (os : Os) (started : os.Started) (H : Type) (enc : TypeId × Value → H) :
  ReturnsInHanded {} Tryz.checked os 3 .any (Rows.fnTraceTermSpec.pre6 enc Tryz.prog Tryz.f3 Rows.fnTraceTermRow.domain false) (Rows.fnTraceTermSpec.post enc Tryz.prog Tryz.f3 false true false false) := by
 refine returnsInHanded_of_change (C := Tryz.checked) own started (by kernel_rfl) Tryz.func3
  (ChangeSpec.witness6 (enc := enc) (C := Tryz.checked) false ⟨#[], #[.slice none 0 0], []⟩ 8 (by kernel_rfl) (by kernel_rfl) (by kernel_rfl) (by kernel_rfl)) ?_
 intro W base args ds gs before hval0 hW hcnd _
 have hval : ∀ (j : Nat) t v, Tryz.f3.params[j]? = some t → args[j]? = some v → Value.okWide Tryz.prog W .any base t v := hval0
 have hW' := hW
 obtain ⟨p, q, hA0, hV, rfl, hfz, hnd⟩ := hW
 have hA : DataW.TrodAll enc Tryz.prog W 0 (fun _ => true) true Tryz.f3.params.toList args.toList ds p := hA0
 rw [Tryz.params3] at hA hval
 obtain ⟨v0, vs0, d0, ds0, p0, q0, hargs, rfl, rfl, h0, r0⟩ := trodAll_cons hA
 obtain ⟨rfl, rfl, rfl⟩ := trodAll_nil r0
 obtain rfl : args = #[v0] := by cases args; simp_all
 obtain ⟨U0, ad0, bb0, oo0, len0, cap0, rfl, hlc0, hcm0, hbl0, hby0⟩ := open_bytes (hval 0 22 v0 rfl rfl) h0
 refine (walk U0 ad0 bb0 oo0 len0 cap0 W hlc0 hcm0 hby0).mono fun e W' ⟨he, hb⟩ => ?_
 subst he
 exact ⟨_, rfl, law_post rfl rfl (fun gs h => by subst h; rfl) (by rw [Tryz.params3]; exact readable_FnTraceTerm) laid hW' hb⟩
theorem over : Rows.fnTraceTermRow.holds Tryz.pinned (OpenSpec.ofChange Rows.fnTraceTermSpec) :=
 OpenClaim.holds_of_wide 3 Tryz.f3 rfl rfl rfl rfl rfl rfl rfl ⟨rfl, rfl, rfl, rfl, rfl⟩ rfl rfl rfl rfl rfl (by kernel_rfl) Tryz.func3 (by kernel_rfl)
  (of_decide_eq_true (by kernel_rfl)) (by unfold Func.isWrapper; first | (rw [if_pos (by decide +kernel)]; kernel_rfl) | (rw [if_neg (by decide +kernel)]; exact ⟨rfl, rfl⟩))
  (fun os started H enc _ => lifted os started H enc)
theorem proved : Rows.FnTraceTermSaid :=
 over
end Go.Proofs.YtlbikgnanabjgaaGreat.fnTraceTerm
