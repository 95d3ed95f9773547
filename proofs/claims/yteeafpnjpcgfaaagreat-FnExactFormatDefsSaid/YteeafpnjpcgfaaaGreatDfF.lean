/-
  impl.environment: count, covers, with; environmentOf, DefsValid.
-/
import Derived.Test.YteeafpnjpcgfaaaGreatDfE
import Derived.Test.YteeafpnjpcgfaaaGreatFree
import Derived.Carry
import Derived.IntWalk
namespace Go.Proofs.YteeafpnjpcgfaaaGreat
open Go.RowKit

/-- An environment of n definitions. -/
def EnvN (n : Nat) (v : Value) (w : World) : Prop := (n = 0 ∧ v = .pointer none) ∨ (0 < n ∧ ∃ g, v = .pointer (some ⟨g, 0, none⟩) ∧ g < w.heap.size ∧ w.cell? ⟨g, 7, none⟩ = some (.int .i64 n))
theorem EnvN.below {n : Nat} {v : Value} {w w' : World} (h : EnvN n v w) (hb : Below w.heap.size w w') : EnvN n v w' := by
  rcases h with h | ⟨h, g, hv, hg, hc⟩
  · exact Or.inl h
  · exact Or.inr ⟨h, g, hv, Nat.lt_of_lt_of_le hg hb.size, (hb.cell (p := ⟨g, 7, none⟩) hg).trans hc⟩

theorem envCount_any (n : Nat) (w : World) (v : Value) (h : EnvN n v w) : Calls Tryz.prog 108 #[v] w (IntPost w n) := by
  rcases h with ⟨rfl, rfl⟩ | ⟨h, g, rfl, hg, hc⟩
  · have HP : Hid (IntPost w (0 : Nat) (.returned (.int .i64 0)) w) := tuck ⟨rfl, Below.refl _ _⟩
    generalize IntPost w (0 : Nat) = post at *
    go_enter Tryz.func108, Tryz.ntmps108
    go_wp2
    exact HP.out
  · have HP : Hid (IntPost w n (.returned (.int .i64 n)) w) := tuck ⟨rfl, Below.refl _ _⟩
    generalize IntPost w n = post at *
    go_enter Tryz.func108, Tryz.ntmps108
    go_wp2
    exact HP.out

set_option maxRecDepth 100000 in
theorem envCovers_any (t : Tm) (n : Nat) (w : World) (v s : Value) (h : EnvN n v w) (hs : SlIn w 0 t.kids s) : Calls Tryz.prog 109 #[v, .agg #[.int .i64 t.kind, .int .i64 t.num, s]] w (BoolPost w (decide (0 ≤ maxFreeOf t ∧ maxFreeOf t ≤ n))) := by
  obtain ⟨a, c, rfl⟩ := hs.form
  obtain ⟨m, hm⟩ : ∃ m, m = maxFreeOf t := ⟨_, rfl⟩
  rw [← hm]
  have hb0 := below1 w (.cells #[.int .i64 t.kind, .int .i64 t.num, .slice a t.kids.length c] 29)
  have HM : Hid (∀ (W : World), SlIn W 0 t.kids (.slice a t.kids.length c) → Calls Tryz.prog 43 #[.agg #[.int .i64 t.kind, .int .i64 t.num, .slice a t.kids.length c]] W (IntPost W m)) := tuck fun W hW => by rw [hm]; exact maxFreeI_any _ W _ ⟨_, rfl, hW⟩
  have HS := tuck (hs.below hb0)
  have HE := tuck (h.below hb0)
  have HB := tuck hb0
  have HC : Hid (∀ (W : World), EnvN n v W → Calls Tryz.prog 108 #[v] W (IntPost W n)) := tuck fun W h => envCount_any n W v h
  have hvf : ∃ p, v = .pointer p := by rcases h with ⟨-, rfl⟩ | ⟨-, g, rfl, -⟩ <;> exact ⟨_, rfl⟩
  obtain ⟨pp, rfl⟩ := hvf
  clear hb0 hs h hm
  by_cases h0 : 0 ≤ m
  · have d0 : decide (0 ≤ m) = true := decide_eq_true h0
    have hdd : decide (0 ≤ m ∧ m ≤ n) = decide (m ≤ (n : Int)) := by simp [h0]
    rw [hdd]
    go_enter Tryz.func109, Tryz.ntmps109
    go_wp2_with fail
    refine (HM.out _ HS.out).mono ?_
    rintro e w1 ⟨rfl, hb1⟩
    replace HB := tuck (bAfter HB.out hb1)
    replace HE := tuck (HE.out.below hb1)
    clear hb1
    go_wp2_with fail
    refine (HC.out _ HE.out).mono ?_
    rintro e w2 ⟨rfl, hb1⟩
    replace HB := tuck (bAfter HB.out hb1)
    clear hb1
    go_wp2_with fail
    go_ret
    exact ⟨rfl, HB.out⟩
  · have d0 : decide (0 ≤ m) = false := decide_eq_false h0
    have hdd : decide (0 ≤ m ∧ m ≤ n) = false := decide_eq_false fun h => h0 h.1
    rw [hdd]
    go_enter Tryz.func109, Tryz.ntmps109
    go_wp2_with fail
    refine (HM.out _ HS.out).mono ?_
    rintro e w1 ⟨rfl, hb1⟩
    replace HB := tuck (bAfter HB.out hb1)
    clear hb1
    go_wp2_with fail
    go_ret
    exact ⟨rfl, HB.out⟩

/-- What 'with' leaves: a longer environment, or none. -/
def WithPost (n : Nat) (ok : Bool) (w : World) (e : Ending) (w' : World) : Prop := Below w.heap.size w w' ∧ ∃ p, e = .returned (.tuple #[.pointer p, .bool ok]) ∧ (ok = true → EnvN (n + 1) (.pointer p) w')

set_option maxRecDepth 100000 in
set_option maxHeartbeats 1600000 in
theorem envWith_any (t u : Tm) (n : Nat) (hn : n ≤ 8) (w : World) (v s s' : Value) (h : EnvN n v w) (hs : SlIn w 0 t.kids s) (hu : SlIn w 0 u.kids s') : Calls Tryz.prog 100 #[v, .agg #[.int .i64 t.kind, .int .i64 t.num, s, .int .i64 u.kind, .int .i64 u.num, s']] w (WithPost n (decide (n ≠ 8) && decide (0 ≤ maxFreeOf t ∧ maxFreeOf t ≤ n) && decide (0 ≤ maxFreeOf u ∧ maxFreeOf u ≤ n)) w) := by
  obtain ⟨a, c, rfl⟩ := hs.form
  obtain ⟨a', c', rfl⟩ := hu.form
  have hvf : ∃ p, v = .pointer p := by rcases h with ⟨-, rfl⟩ | ⟨-, g, rfl, -⟩ <;> exact ⟨_, rfl⟩
  obtain ⟨pp, rfl⟩ := hvf
  have hb0 := below1 w (.cells #[.int .i64 t.kind, .int .i64 t.num, .slice a t.kids.length c, .int .i64 u.kind, .int .i64 u.num, .slice a' u.kids.length c'] 81)
  have HD := tuck (DBox.new 81 w t.kind t.num (.slice a t.kids.length c) u.kind u.num (.slice a' u.kids.length c'))
  obtain ⟨b1, hb1⟩ : ∃ b, b = decide (0 ≤ maxFreeOf t ∧ maxFreeOf t ≤ n) := ⟨_, rfl⟩
  obtain ⟨b2, hb2⟩ : ∃ b, b = decide (0 ≤ maxFreeOf u ∧ maxFreeOf u ≤ n) := ⟨_, rfl⟩
  rw [← hb1, ← hb2]
  have HC1 : Hid (∀ (W : World), EnvN n (.pointer pp) W → SlIn W 0 t.kids (.slice a t.kids.length c) → Calls Tryz.prog 109 #[.pointer pp, .agg #[.int .i64 t.kind, .int .i64 t.num, .slice a t.kids.length c]] W (BoolPost W b1)) := tuck fun W h1 h2 => by rw [hb1]; exact envCovers_any t n W _ _ h1 h2
  have HC2 : Hid (∀ (W : World), EnvN n (.pointer pp) W → SlIn W 0 u.kids (.slice a' u.kids.length c') → Calls Tryz.prog 109 #[.pointer pp, .agg #[.int .i64 u.kind, .int .i64 u.num, .slice a' u.kids.length c']] W (BoolPost W b2)) := tuck fun W h1 h2 => by rw [hb2]; exact envCovers_any u n W _ _ h1 h2
  have HCN : Hid (∀ (W : World), EnvN n (.pointer pp) W → Calls Tryz.prog 108 #[.pointer pp] W (IntPost W n)) := tuck fun W h => envCount_any n W _ h
  have HNO : Hid (∀ W, Below w.heap.size w W → WithPost n false w (.returned (.tuple #[.pointer none, .bool false])) W) := tuck fun W hb => ⟨hb, none, rfl, fun h => by cases h⟩
  have HS := tuck (hs.below hb0)
  have HU := tuck (hu.below hb0)
  have HE := tuck (h.below hb0)
  have HB := tuck hb0
  clear hs hu h hb0 hb1 hb2
  by_cases h8 : n = 8
  · have e8 : ((n : Int) == 8) = true := by simp [h8]
    rw [show decide (n ≠ 8) = false by simp [h8], Bool.false_and, Bool.false_and]
    generalize WithPost n false w = post at *
    clear h8
    go_enter Tryz.func100, Tryz.ntmps100
    go_wp2_with fail
    refine (HCN.out _ HE.out).mono ?_
    rintro e w1 ⟨rfl, hb⟩
    replace HB := tuck (bAfter HB.out hb)
    clear hb
    go_wp2_with fail
    exact HNO.out _ HB.out
  have e8 : ((n : Int) == 8) = false := by simp; omega
  rw [show decide (n ≠ 8) = true by simp [h8], Bool.true_and]
  cases b1 with
  | false =>
    rw [Bool.false_and]
    generalize WithPost n false w = post at *
    go_enter Tryz.func100, Tryz.ntmps100
    go_wp2_with fail
    refine (HCN.out _ HE.out).mono ?_
    rintro e w1 ⟨rfl, hb⟩
    replace HB := tuck (bAfter HB.out hb)
    replace HE := tuck (HE.out.below hb)
    replace HS := tuck (HS.out.below hb)
    obtain ⟨z1, p0, p1, p2, p3, p4, p5, pf⟩ := (HD.out.below hb).facts
    clear hb
    go_wp2_with fail
    refine (HC1.out _ HE.out HS.out).mono ?_
    rintro e w2 ⟨rfl, hb⟩
    replace HB := tuck (bAfter HB.out hb)
    clear hb
    go_wp2_with fail
    exact HNO.out _ HB.out
  | true =>
    rw [Bool.true_and]
    cases b2 with
    | false =>
      generalize WithPost n false w = post at *
      go_enter Tryz.func100, Tryz.ntmps100
      go_wp2_with fail
      refine (HCN.out _ HE.out).mono ?_
      rintro e w1 ⟨rfl, hb⟩
      replace HB := tuck (bAfter HB.out hb)
      replace HE := tuck (HE.out.below hb)
      replace HS := tuck (HS.out.below hb)
      replace HU := tuck (HU.out.below hb)
      replace HD := tuck (HD.out.below hb)
      obtain ⟨z1, p0, p1, p2, p3, p4, p5, pf⟩ := HD.out.facts
      clear hb
      go_wp2_with fail
      refine (HC1.out _ HE.out HS.out).mono ?_
      rintro e w2 ⟨rfl, hb⟩
      replace HB := tuck (bAfter HB.out hb)
      replace HE := tuck (HE.out.below hb)
      replace HU := tuck (HU.out.below hb)
      replace HD := tuck (HD.out.below hb)
      clear z1 p0 p1 p2 p3 p4 p5 pf
      obtain ⟨z1, p0, p1, p2, p3, p4, p5, pf⟩ := HD.out.facts
      clear hb
      go_wp2_with fail
      refine (HC2.out _ HE.out HU.out).mono ?_
      rintro e w3 ⟨rfl, hb⟩
      replace HB := tuck (bAfter HB.out hb)
      clear hb
      go_wp2_with fail
      exact HNO.out _ HB.out
    | true =>
      have HYES : Hid (∀ W g, Below w.heap.size w W → g < W.heap.size → W.cell? ⟨g, 7, none⟩ = some (.int .i64 ((n : Int) + 1)) → WithPost n true w (.returned (.tuple #[.pointer (some ⟨g, 0, none⟩), .bool true])) W) := tuck fun W g hb hg hc => ⟨hb, _, rfl, fun _ => Or.inr ⟨Nat.succ_pos _, g, rfl, hg, by rw [hc]; push_cast; rfl⟩⟩
      generalize WithPost n true w = post at *
      go_enter Tryz.func100, Tryz.ntmps100
      go_wp2_with fail
      refine (HCN.out _ HE.out).mono ?_
      rintro e w1 ⟨rfl, hb⟩
      replace HB := tuck (bAfter HB.out hb)
      replace HE := tuck (HE.out.below hb)
      replace HS := tuck (HS.out.below hb)
      replace HU := tuck (HU.out.below hb)
      replace HD := tuck (HD.out.below hb)
      obtain ⟨z1, p0, p1, p2, p3, p4, p5, pf⟩ := HD.out.facts
      clear hb
      go_wp2_with fail
      refine (HC1.out _ HE.out HS.out).mono ?_
      rintro e w2 ⟨rfl, hb⟩
      replace HB := tuck (bAfter HB.out hb)
      replace HE := tuck (HE.out.below hb)
      replace HU := tuck (HU.out.below hb)
      replace HD := tuck (HD.out.below hb)
      clear z1 p0 p1 p2 p3 p4 p5 pf
      obtain ⟨z1, p0, p1, p2, p3, p4, p5, pf⟩ := HD.out.facts
      clear hb
      go_wp2_with fail
      refine (HC2.out _ HE.out HU.out).mono ?_
      rintro e w3 ⟨rfl, hb⟩
      replace HB := tuck (bAfter HB.out hb)
      replace HE := tuck (HE.out.below hb)
      replace HD := tuck (HD.out.below hb)
      clear z1 p0 p1 p2 p3 p4 p5 pf hb
      obtain ⟨z1, p0, p1, p2, p3, p4, p5, pf⟩ := HD.out.facts
      have hmm := @run_makeMap Tryz.prog
      go_wp2_with fail
      have HW3 := tuck HB.out
      go_region_with (go_at_call 108; (refine (HCN.out _ (by first | exact HE.out.below (Below.refl _ _).drew | exact HE.out.below (bAfter (Below.refl _ _).drew (below1 _ _)))).mono ?_; rintro e w5 ⟨rfl, hb5⟩; obtain ⟨z7, r0, r1, r2, r3, r4, r5, rf⟩ := (DBox.facts (DBox.below (by first | exact HD.out.below (Below.refl _ _).drew | exact HD.out.below (bAfter (Below.refl _ _).drew (below1 _ _))) hb5))))
      all_goals go_wp2_with fail
      all_goals have hwr : IntKind.i64.wrap ((n : Int) + 1) = (n : Int) + 1 := IntWalk.i64_in _ (by omega)
      all_goals first
        | (refine bodyPost_ret (v := .tuple #[.pointer (some ⟨(w5.heap.size + 1), 0, none⟩), .bool true]) (by simp [results, Tryz.results100, go_sem, *]) rfl (HYES.out _ (w5.heap.size + 1) ?_ (by simp) (by (try simp only [hwr]); simp)); exact bAfter (bAfter HB.out (bAfter (Below.refl _ _).drew hb5)) (below2 _ _ _))
        | (refine bodyPost_ret (v := .tuple #[.pointer (some ⟨w5.heap.size, 0, none⟩), .bool true]) (by simp [results, Tryz.results100, go_sem, *]) rfl (HYES.out _ w5.heap.size ?_ (by simp) (by (try simp only [hwr]); rw [World.cell?_alloc_new]; rfl)); exact bAfter (bAfter HB.out (bAfter (bAfter (Below.refl _ _).drew (below1 _ _)) hb5)) (below1 _ _))

end Go.Proofs.YteeafpnjpcgfaaaGreat
