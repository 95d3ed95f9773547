/-
  TeleS.
-/
import Derived.Test.YtleijaegpfjnpaaGreatC28
import Derived.Test.YtleijaegpfjnpaaGreatC30
import Derived.Test.YtleijaegpfjnpaaGreatC35
import Derived.Test.YtleijaegpfjnpaaGreatC36
import Derived.Deep.DeepCutAuto
namespace Go.Proofs.YtleijaegpfjnpaaGreat
open Go.RowKit
def TlPost (w : World) (T : Tm) (e : Ending) (w' : World) : Prop := Below w.heap.size w w' ∧ ∃ (a : Option Addr) (c : Nat), e = .returned (.agg #[.int .i64 T.kind, .int .i64 T.num, .slice a T.kids.length c]) ∧ SlIn w' w.heap.size T.kids (.slice a T.kids.length c)
theorem MadePost.tl {w w' : World} {T : Tm} {e : Ending} (h : MadePost w T e w') : TlPost w T e w' := by
 obtain ⟨hb, v, rfl, s, F, rfl, hs, -, hF⟩ := h
 obtain ⟨a, c, rfl⟩ := hs.form
 exact ⟨hb, a, c, rfl, hs.sl fun g hg => (hF g hg).1⟩
theorem tl_copyS (t : Tm) (ht : sizes t.kids ≤ 1000000) (w : World) (s : Value) (hs : SlIn w 0 t.kids s) : Calls Tryz.prog 29 #[.agg #[.int .i64 t.kind, .int .i64 t.num, s]] w (TlPost w t) := by
 have h := lcopy_any t.kids t.kind t.num w s ht hs
 rw [Tm.eta] at h
 exact h.mono fun _ _ h => h.tl
def MdPost (w : World) (T : Tm) (s : Value) (e : Ending) (w' : World) : Prop := Below w.heap.size w w' ∧ ((T.Valid ∧ e = .returned (.tuple #[.agg #[.int .i64 T.kind, .int .i64 T.num, s], .bool true])) ∨ (¬ T.Valid ∧ e = .returned (.tuple #[.agg #[.int .i64 0, .int .i64 0, .slice none 0 0], .bool false])))
set_option maxRecDepth 100000 in
theorem madeS_any (t : Tm) (w : World) (s : Value) (h : SlIn w 0 t.kids s) : Calls Tryz.prog 17 #[.agg #[.int .i64 t.kind, .int .i64 t.num, s]] w (MdPost w t s) := by
 obtain ⟨sa, sc, rfl⟩ := h.form
 have HS := tuck h
 clear h
 have HV : Hid (∀ w', SlIn w' 0 t.kids (.slice sa t.kids.length sc) → Calls Tryz.prog 27 #[.agg #[.int .i64 t.kind, .int .i64 t.num, .slice sa t.kids.length sc]] w' (BoolPost w' (tr t.Valid))) := tuck fun w' h => validS_any t w' _ ⟨_, rfl, h⟩
 have hb2 := below2 w (.cells #[.int .i64 t.kind, .int .i64 t.num, .slice sa t.kids.length sc] 29) (.cells #[.int .i64 0, .int .i64 0, .slice none 0 0] 29)
 have HV0 := tuck ((VarAt.new w t.kind t.num (.slice sa t.kids.length sc)).below (below1 _ (.cells #[.int .i64 0, .int .i64 0, .slice none 0 0] 29)))
 have HV1 := tuck (var_new1 w (.cells #[.int .i64 t.kind, .int .i64 t.num, .slice sa t.kids.length sc] 29) 0 0 (.slice none 0 0))
 have HB2 := tuck hb2
 clear hb2
 have HPY : Hid (tr t.Valid = true → ∀ w', Below w.heap.size w w' → MdPost w t (.slice sa t.kids.length sc) (.returned (.tuple #[.agg #[.int .i64 t.kind, .int .i64 t.num, .slice sa t.kids.length sc], .bool true])) w') := tuck fun h w' hb => ⟨hb, Or.inl ⟨tr_iff.1 h, rfl⟩⟩
 have HPN : Hid (tr t.Valid = false → ∀ w', Below w.heap.size w w' → MdPost w t (.slice sa t.kids.length sc) (.returned (.tuple #[.agg #[.int .i64 0, .int .i64 0, .slice none 0 0], .bool false])) w') := tuck fun h w' hb => ⟨hb, Or.inr ⟨tr_false.1 h, rfl⟩⟩
 generalize MdPost w t (.slice sa t.kids.length sc) = post at *
 generalize tr t.Valid = ok at *
 go_enter Tryz.func17, Tryz.ntmps17
 go_wp2_with fail
 generalize ((w.alloc (.cells #[.int .i64 t.kind, .int .i64 t.num, .slice sa t.kids.length sc] 29)).alloc (.cells #[.int .i64 0, .int .i64 0, .slice none 0 0] 29)) = W0 at *
 refine (HV.out _ (HS.out.below HB2.out)).mono ?_
 rintro e w1 ⟨rfl, hb1⟩
 obtain ⟨z0, a0, a1, a2, -⟩ := (HV0.out.below hb1).facts
 obtain ⟨z1, r0, r1, r2, rf⟩ := (HV1.out.below hb1).facts
 have HB := tuck (bAfter HB2.out hb1)
 clear hb1 HV0 HV1 HB2
 cases ok
 ·go_wp2_with fail
  refine bodyPost_ret (v := .tuple #[.agg #[.int .i64 0, .int .i64 0, .slice none 0 0], .bool false]) (by simp [results, Tryz.results17, go_sem, *]) rfl (HPN.out (by trivial) _ ?_)
  first | exact bSet3 HB.out (Nat.le_succ _) _ _ _ _ _ _ | exact HB.out
 ·go_wp2_with fail
  refine bodyPost_ret (v := .tuple #[.agg #[.int .i64 t.kind, .int .i64 t.num, .slice sa t.kids.length sc], .bool true]) (by simp [results, Tryz.results17, go_sem, *]) rfl (HPY.out (by trivial) _ ?_)
  exact bSet3 HB.out (Nat.le_succ _) _ _ _ _ _ _
end Go.Proofs.YtleijaegpfjnpaaGreat
