/-
  TeleS.
-/
import Derived.Test.YtleijaegpfjnpaaB30
import Derived.Test.YtleijaegpfjnpaaB31
import Derived.Test.YtleijaegpfjnpaaB35
import Derived.Test.YtleijaegpfjnpaaB37
import Derived.Deep.DeepCutAuto
namespace Go.Proofs.Ytleijaegpfjnpaa
open Go.RowKit
theorem tl_from {w : World} {B : Nat} : ∀ {l : List Tm} {v : Value}, SlX w (fun i => i < B) l v → SlIn w B l v := by
 intro l
 induction l using Tm.ind with
 | h l ih =>
  intro v h
  obtain ⟨a, cap, b, o, rfl, h1, h2, h3⟩ := h.open
  refine ⟨a, cap, b, o, rfl, h1, fun hn => ⟨(h2 hn).1, Nat.not_lt.1 (h2 hn).2.1⟩, RowAt.of_get fun i hi => ?_⟩
  obtain ⟨s, c0, c1, c2, hs⟩ := h3 i hi
  exact TmAt_iff.2 ⟨s, c0, c1, c2, ih i hi hs⟩
def TlPost (w : World) (T : Tm) (e : Ending) (w' : World) : Prop := Below w.heap.size w w' ∧ ∃ (a : Option Addr) (c : Nat), e = .returned (.agg #[.int .i64 T.kind, .int .i64 T.num, .slice a T.kids.length c]) ∧ SlIn w' w.heap.size T.kids (.slice a T.kids.length c)
theorem MadePost.tl {w w' : World} {T : Tm} {e : Ending} (h : MadePost w T e w') : TlPost w T e w' := by
 obtain ⟨hb, v, rfl, s, F, rfl, hs, -, hF⟩ := h
 obtain ⟨a, c, rfl⟩ := hs.form
 exact ⟨hb, a, c, rfl, hs.sl fun g hg => (hF g hg).1⟩
theorem tl_copyS (t : Tm) (ht : sizes t.kids ≤ 1000000) (w : World) (s : Value) (hs : SlIn w 0 t.kids s) : Calls Try.prog 39 #[.agg #[.int .i64 t.kind, .int .i64 t.num, s]] w (TlPost w t) := by
 have h := lcopy_any t.kids t.kind t.num w s ht hs
 rw [Tm.eta] at h
 exact h.mono fun _ _ h => h.tl
set_option maxRecDepth 100000 in
theorem fitsS_any (l : List Tm) (w : World) (v : Value) (h : SlIn w 0 l v) : Calls Try.prog 54 #[v] w (BoolPost w (tr (Fits l))) := by
 obtain ⟨a, cap, b, o, rfl, hl, hp, hc⟩ := h.open
 clear h
 have HP := tuck hp
 have HC := tuck hc
 clear hp hc
 unfold maxLen at hl
 have HY : Hid ((∀ (i : Nat) (hi : i < l.length), l[i].Valid) → tr (Fits l) = decide ((l.length : Int) ≤ 8)) := tuck fun h => by
  rw [Bool.eq_iff_iff, tr_iff, decide_eq_true_eq]
  exact ⟨fun hf => by have := hf.2; omega, fun hle => ⟨fun x hx => by obtain ⟨i, hi, rfl⟩ := List.getElem_of_mem hx; exact h i hi, by omega⟩⟩
 have HN : Hid (∀ (i : Nat) (hi : i < l.length), ¬ l[i].Valid → tr (Fits l) = false) := tuck fun i hi hn => tr_not fun hf => hn (hf.1 _ (List.getElem_mem hi))
 generalize tr (Fits l) = res at *
 go_enter Try.func54, Try.ntmps54
 go_wp2
 go_loopw [3] (fun i wr => ∃ q : Nat, q ≤ l.length ∧ i = .int .i64 q ∧ Below w.heap.size w wr ∧ ∀ (i : Nat) (hi : i < l.length), i < q → l[i].Valid) (fun i _ => l.length - (intOf i).toNat)
 case atStart => exact ⟨0, Nat.zero_le _, rfl, Below.refl _ _, fun i _ h => absurd h (Nat.not_lt_zero _)⟩
 case round =>
  obtain ⟨q, hq, rfl, hb, hall⟩ := hrel
  by_cases hlt : q < l.length
  ·have hlti : ((q : Int) < (l.length : Int)) := by omega
   obtain ⟨rfl, _, hbw⟩ := HP.out (by intro e; rw [e] at hlt; simp at hlt)
   obtain ⟨s, c0, c1, c2, hs⟩ := HC.out q hlt
   obtain ⟨sa, sc, rfl⟩ := hs.form
   replace c0 := (hb.cell (p := ⟨b, o + q * 3, none⟩) hbw).trans c0
   replace c1 := (hb.cell (p := ⟨b, o + q * 3 + 1, none⟩) hbw).trans c1
   replace c2 := (hb.cell (p := ⟨b, o + q * 3 + 2, none⟩) hbw).trans c2
   have HV : Hid (Calls Try.prog 37 #[.agg #[.int .i64 l[q].kind, .int .i64 l[q].num, .slice sa l[q].kids.length sc]] wr (BoolPost wr (tr l[q].Valid))) := validS_any l[q] wr _ ⟨_, rfl, hs.below hb⟩
   have HB := tuck hb
   have HALL := tuck hall
   have HNQ := tuck (HN.out q hlt)
   have HVQ : Hid (tr l[q].Valid = true → l[q].Valid) := tuck fun h => tr_iff.1 h
   have HVN : Hid (tr l[q].Valid = false → ¬ l[q].Valid) := tuck fun h => tr_false.1 h
   clear hb hs hall
   generalize tr l[q].Valid = ok at *
   generalize hx : l[q] = x at *
   have HX := tuck hx
   clear hx
   go_wp2_with (go_at_call 37; refine HV.out.mono ?_; rintro e w' ⟨rfl, hb'⟩)
   ·go_ret
    rename (!ok) = true => h1
    have h2 : ok = false := by simpa using h1
    exact ⟨ret_bool (HNQ.out (HVN.out h2)).symm, bAfter HB.out hb'⟩
   ·rename (!ok) = false => h1
    have h2 : ok = true := by simpa using h1
    go_roundw
    case rel =>
     refine ⟨q + 1, by omega, by go_num, bAfter HB.out hb', fun i hi hiq => ?_⟩
     by_cases e : i = q
     ·subst e
      rw [HX.out]
      exact HVQ.out h2
     ·exact HALL.out i hi (by omega)
    case measure => simp [intOf]; omega
  ·have hge2 : ¬ ((q : Int) < (l.length : Int)) := by omega
   have HB := tuck hb
   have h3 := HY.out fun i hi => hall i hi (by omega)
   have H3 := tuck h3
   clear hb hall h3
   go_wp2
   go_ret
   exact ⟨ret_bool H3.out.symm, HB.out⟩
def MdPost (w : World) (T : Tm) (s : Value) (e : Ending) (w' : World) : Prop := Below w.heap.size w w' ∧ ((T.Valid ∧ e = .returned (.tuple #[.agg #[.int .i64 T.kind, .int .i64 T.num, s], .bool true])) ∨ (¬ T.Valid ∧ e = .returned (.tuple #[.agg #[.int .i64 0, .int .i64 0, .slice none 0 0], .bool false])))
set_option maxRecDepth 100000 in
theorem madeS_any (t : Tm) (w : World) (s : Value) (h : SlIn w 0 t.kids s) : Calls Try.prog 42 #[.agg #[.int .i64 t.kind, .int .i64 t.num, s]] w (MdPost w t s) := by
 obtain ⟨sa, sc, rfl⟩ := h.form
 have HS := tuck h
 clear h
 have HV : Hid (∀ w', SlIn w' 0 t.kids (.slice sa t.kids.length sc) → Calls Try.prog 37 #[.agg #[.int .i64 t.kind, .int .i64 t.num, .slice sa t.kids.length sc]] w' (BoolPost w' (tr t.Valid))) := tuck fun w' h => validS_any t w' _ ⟨_, rfl, h⟩
 have hb2 := below2 w (.cells #[.int .i64 t.kind, .int .i64 t.num, .slice sa t.kids.length sc] 29) (.cells #[.int .i64 0, .int .i64 0, .slice none 0 0] 29)
 have HV0 := tuck ((VarAt.new w t.kind t.num (.slice sa t.kids.length sc)).below (below1 _ (.cells #[.int .i64 0, .int .i64 0, .slice none 0 0] 29)))
 have HV1 := tuck (var_new1 w (.cells #[.int .i64 t.kind, .int .i64 t.num, .slice sa t.kids.length sc] 29) 0 0 (.slice none 0 0))
 have HB2 := tuck hb2
 clear hb2
 have HPY : Hid (tr t.Valid = true → ∀ w', Below w.heap.size w w' → MdPost w t (.slice sa t.kids.length sc) (.returned (.tuple #[.agg #[.int .i64 t.kind, .int .i64 t.num, .slice sa t.kids.length sc], .bool true])) w') := tuck fun h w' hb => ⟨hb, Or.inl ⟨tr_iff.1 h, rfl⟩⟩
 have HPN : Hid (tr t.Valid = false → ∀ w', Below w.heap.size w w' → MdPost w t (.slice sa t.kids.length sc) (.returned (.tuple #[.agg #[.int .i64 0, .int .i64 0, .slice none 0 0], .bool false])) w') := tuck fun h w' hb => ⟨hb, Or.inr ⟨tr_false.1 h, rfl⟩⟩
 generalize MdPost w t (.slice sa t.kids.length sc) = post at *
 generalize tr t.Valid = ok at *
 go_enter Try.func42, Try.ntmps42
 go_wp2_with fail
 generalize ((w.alloc (.cells #[.int .i64 t.kind, .int .i64 t.num, .slice sa t.kids.length sc] 29)).alloc (.cells #[.int .i64 0, .int .i64 0, .slice none 0 0] 29)) = W0 at *
 refine (HV.out _ (HS.out.below HB2.out)).mono ?_
 rintro e w1 ⟨rfl, hb1⟩
 obtain ⟨z0, a0, a1, a2, -⟩ := (HV0.out.below hb1).facts
 obtain ⟨z1, r0, r1, r2, rf⟩ := (HV1.out.below hb1).facts
 have HB := tuck (bAfter HB2.out hb1)
 clear hb1 HV0 HV1 HB2
 cases ok
 ·go_wp2_with fail
  refine bodyPost_ret (v := .tuple #[.agg #[.int .i64 0, .int .i64 0, .slice none 0 0], .bool false]) (by simp [results, Try.results42, go_sem, *]) rfl (HPN.out (by trivial) _ ?_)
  first | exact bSet3 HB.out (Nat.le_succ _) _ _ _ _ _ _ | exact HB.out
 ·go_wp2_with fail
  refine bodyPost_ret (v := .tuple #[.agg #[.int .i64 t.kind, .int .i64 t.num, .slice sa t.kids.length sc], .bool true]) (by simp [results, Try.results42, go_sem, *]) rfl (HPY.out (by trivial) _ ?_)
  exact bSet3 HB.out (Nat.le_succ _) _ _ _ _ _ _
end Go.Proofs.Ytleijaegpfjnpaa
