/-
  spec.l2Keeps, l2Index, ShiftTerm.
-/
import Derived.Test.YtohlpjfhhbcebaaSpecT
import Derived.Test.YtohlpjfhhbcebaaSpecV
namespace Go.Proofs.Ytohlpjfhhbcebaa
open Go.RowKit

theorem keepsL_drop {e k : Int} {l : List Tm} {q : Nat} {c : Int} (h : q < l.length) : keepsL e k (l.drop q) q c ↔ l[q].keeps e (c + under k q) ∧ keepsL e k (l.drop (q + 1)) (q + 1) c := by
  rw [List.drop_eq_getElem_cons h, keepsL]
theorem keepsL_end {e k : Int} {l : List Tm} {q : Nat} {c : Int} (h : l.length ≤ q) : keepsL e k (l.drop q) q c := by
  rw [List.drop_eq_nil_of_le h, keepsL]; trivial

set_option maxRecDepth 100000 in
theorem keeps_any {r : Int} (hr0 : 0 ≤ r) (hr1 : r ≤ 1000) : ∀ (l : List Tm) (k n x : Int) (w : World) (s : Value), 0 ≤ x → x + hgts l ≤ 1000 → SlIn w 0 l s →
    Calls Try.prog 90 #[.agg #[.int .i64 k, .int .i64 n, s], .int .i64 x, .int .i64 r] w (BoolPost w (tr ((Tm.mk k n l).keeps (-r) x))) := by
  intro l
  induction l using Tm.ind with
  | h l ih =>
  intro k n x w v hx0 hx1 hin
  obtain ⟨a, cap, bb, o, rfl, hl, hp, hc⟩ := hin.open
  clear hin
  have hst : (Tm.mk k n l).keeps (-r) x ↔ (k = 1 ∧ x ≤ n → x ≤ n + -r) ∧ keepsL (-r) k l 0 x := by rw [Tm.keeps]
  obtain ⟨T, hT⟩ : ∃ T, (Tm.mk k n l).keeps (-r) x = T := ⟨_, rfl⟩
  rw [hT] at hst ⊢
  have HI := tuck ih
  have HP := tuck hp
  have HC := tuck hc
  unfold maxLen at hl
  clear ih hp hc hT
  by_cases hbad : k = 1 ∧ x ≤ n ∧ n < x + r
  · obtain ⟨rfl, h1, h2⟩ := hbad
    have hF : tr T = false := tr_not fun h => by
      have := (hst.1 h).1 ⟨rfl, h1⟩
      omega
    rw [hF]
    have g1 : decide (x ≤ n) = true := by simpa using h1
    have g2 : decide (n < x + r) = true := by simpa using h2
    clear hst hF
    go_enter Try.func90, Try.ntmps90
    go_wp2_with fail
    go_ret
    exact ⟨rfl, below1 _ _⟩
  have hroot : (k = 1 ∧ x ≤ n → x ≤ n + -r) := fun ⟨h1, h2⟩ => by
    by_cases h3 : n < x + r
    · exact absurd ⟨h1, h2, h3⟩ hbad
    · omega
  have HST : Hid (T ↔ keepsL (-r) k l 0 x) := hst.trans ⟨fun h => h.2, fun h => ⟨hroot, h⟩⟩
  have HCASE : ((k == 1) = true ∧ decide (x ≤ n) = true ∧ decide (n < x + r) = false) ∨ ((k == 1) = true ∧ decide (x ≤ n) = false ∧ decide (n < x + r) = decide (n < x + r)) ∨ ((k == 1) = false ∧ (n == x) = (n == x) ∧ decide (n < x + r) = decide (n < x + r)) := by
    by_cases h1 : k = 1
    · by_cases h2 : x ≤ n
      · exact Or.inl ⟨by simpa using h1, by simpa using h2, by simpa using (fun h => hbad ⟨h1, h2, h⟩)⟩
      · exact Or.inr (Or.inl ⟨by simpa using h1, by simpa using h2, rfl⟩)
    · exact Or.inr (Or.inr ⟨by simpa using h1, rfl, rfl⟩)
  clear hst hroot hbad
  obtain ⟨g1, g2, g3⟩ | ⟨g1, g2, -⟩ | ⟨g1, -, -⟩ := HCASE
  all_goals
    go_enter Try.func90, Try.ntmps90
    go_wp2_with fail
    have hb0 : Below w.heap.size w (w.alloc (.cells #[.int .i64 k, .int .i64 n, .slice a l.length cap] 29)) := below1 _ _
    have hbox : (w.alloc (.cells #[.int .i64 k, .int .i64 n, .slice a l.length cap] 29)).cell? ⟨w.heap.size, 2, none⟩ = some (.slice a l.length cap) := by go_simp
    have hbox0 : (w.alloc (.cells #[.int .i64 k, .int .i64 n, .slice a l.length cap] 29)).cell? ⟨w.heap.size, 0, none⟩ = some (.int .i64 k) := by go_simp
    have hz0 : w.heap.size < (w.alloc (.cells #[.int .i64 k, .int .i64 n, .slice a l.length cap] 29)).heap.size := by go_simp
    generalize (w.alloc (.cells #[.int .i64 k, .int .i64 n, .slice a l.length cap] 29)) = W0 at *
    have HBOX := tuck hbox
    have HBOX0 := tuck hbox0
    have HB0 := tuck hb0
    clear hbox hbox0 hb0 g1
    try clear g2
    try clear g3
    go_loopw [7] (fun i wr => ∃ (q : Nat), q ≤ l.length ∧ i = .int .i64 q ∧ (T ↔ keepsL (-r) k (l.drop q) q x) ∧ Below W0.heap.size W0 wr) (fun i _ => l.length - (intOf i).toNat)
    case atStart => exact ⟨0, Nat.zero_le _, rfl, HST.out, Below.refl _ _⟩
    case round =>
      obtain ⟨q, hq, rfl, hTm, hb⟩ := hrel
      have hbox : wr.cell? ⟨w.heap.size, 2, none⟩ = some (.slice a l.length cap) := (hb.cell (p := ⟨w.heap.size, 2, none⟩) hz0).trans HBOX.out
      by_cases hlt : q < l.length
      · have hlti : ((q : Int) < (l.length : Int)) := by omega
        have hbox0 : wr.cell? ⟨w.heap.size, 0, none⟩ = some (.int .i64 k) := (hb.cell (p := ⟨w.heap.size, 0, none⟩) hz0).trans HBOX0.out
        have hzr : w.heap.size < wr.heap.size := Nat.lt_of_lt_of_le hz0 hb.size
        have hh := mem_hgts' hlt
        have hund := under_01 k q
        have htd := keepsL_drop (e := -r) (k := k) (c := x) hlt
        obtain ⟨rfl, _, hbw⟩ := HP.out (by intro e; rw [e] at hlt; simp at hlt)
        obtain ⟨s, c0, c1, c2, hs⟩ := HC.out q hlt
        obtain ⟨sa, sc, rfl⟩ := hs.form
        have hbb := bAfter HB0.out hb
        replace c0 := (hbb.cell (p := ⟨bb, o + q * 3, none⟩) hbw).trans c0
        replace c1 := (hbb.cell (p := ⟨bb, o + q * 3 + 1, none⟩) hbw).trans c1
        replace c2 := (hbb.cell (p := ⟨bb, o + q * 3 + 2, none⟩) hbw).trans c2
        have hbr : bb < wr.heap.size := World.block_lt_of_cell? wr _ c0
        have HBB := tuck hbb
        have HS2 := tuck hs
        have HI' := tuck (HI.out q hlt l[q].kind l[q].num)
        rw [Tm.eta] at HI'
        clear hbb hs HI
        generalize l[q] = y at *
        have HH := tuck hh
        have HTD := tuck htd
        have HTM := tuck hTm
        have hx2 : 0 ≤ x + under k q ∧ x + under k q + hgts y.kids ≤ 1000 := by rw [Tm.hgt_eq] at hh; omega
        have HX2 := tuck hx2
        have HW1 : IntKind.i64.wrap (x + under k q) = x + under k q := IntWalk.i64_in _ (by omega)
        have hqi : (0 : Int) ≤ (q : Int) := by omega
        have HBR := tuck hb
        have HKK : Hid (tr (y.keeps (-r) (x + under k q)) = true ↔ y.keeps (-r) (x + under k q)) := tr_iff
        generalize tr (y.keeps (-r) (x + under k q)) = rb at *
        clear hh htd hTm hx2 hund hb
        have HBX : Hid (Below wr.heap.size wr wr.drew ∧ (w.heap.size < wr.drew.heap.size ∧ bb < wr.drew.heap.size) ∧ wr.drew.cell? ⟨w.heap.size, 0, none⟩ = some (.int .i64 k) ∧ wr.drew.cell? ⟨w.heap.size, 2, none⟩ = some (.slice (some ⟨bb, o, none⟩) l.length cap) ∧ wr.drew.cell? ⟨bb, o + q * 3, none⟩ = some (.int .i64 y.kind) ∧ wr.drew.cell? ⟨bb, o + q * 3 + 1, none⟩ = some (.int .i64 y.num) ∧ wr.drew.cell? ⟨bb, o + q * 3 + 2, none⟩ = some (.slice sa y.kids.length sc)) := tuck ⟨(Below.refl _ _).drew, ⟨hzr, hbr⟩, hbox0, hbox, c0, c1, c2⟩
        have HCL : Hid (∀ w', Below wr.heap.size wr w' → Calls Try.prog 90 #[.agg #[.int .i64 y.kind, .int .i64 y.num, .slice sa y.kids.length sc], .int .i64 (x + under k q), .int .i64 r] w' (BoolPost w' rb)) := fun w' hw => by
          have := HI'.out (x + under k q) w' _ HX2.out.1 HX2.out.2 (HS2.out.below (bAfter HBB.out hw))
          have e : tr (y.keeps (-r) (x + under k q)) = rb := by
            rw [Bool.eq_iff_iff, tr_iff, HKK.out]
          rwa [e] at this
        clear HI'
        go_wp2_with fail
        go_region_held3 (fun w' => Below wr.heap.size wr w' ∧ (w.heap.size < w'.heap.size ∧ bb < w'.heap.size) ∧ w'.cell? ⟨w.heap.size, 0, none⟩ = some (.int .i64 k) ∧ w'.cell? ⟨w.heap.size, 2, none⟩ = some (.slice (some ⟨bb, o, none⟩) l.length cap) ∧ w'.cell? ⟨bb, o + q * 3, none⟩ = some (.int .i64 y.kind) ∧ w'.cell? ⟨bb, o + q * 3 + 1, none⟩ = some (.int .i64 y.num) ∧ w'.cell? ⟨bb, o + q * 3 + 2, none⟩ = some (.slice sa y.kids.length sc)) (first | exact HBX.out | assumption | exact hold_below (by assumption) hb3) (first | (go_at_call 117; refine (under_any k q _).mono ?_; rintro e w2 ⟨rfl, rfl⟩) | (go_at_call 90; refine (HCL.out _ (hold_fst (by assumption))).mono ?_; rintro e w3 ⟨rfl, hb3⟩))
        have HE : Hid (Below wr.heap.size wr w3) := hold_fst (by assumption)
        clear HW1
        cases rb
        · go_wp2_with fail
          go_ret
          have hTF : ¬ T := fun h => by
            have h1 := (HTD.out.1 (HTM.out.1 h)).1
            exact absurd (HKK.out.2 h1) (by decide)
          exact ⟨ret_bool (tr_not hTF).symm, bAfter HB0.out (bAfter HBR.out HE.out)⟩
        · go_wp2_with fail
          go_roundw
          case rel => exact ⟨q + 1, by omega, by go_num, HTM.out.trans (HTD.out.trans ⟨fun h => h.2, fun h => ⟨HKK.out.1 rfl, h⟩⟩), bAfter HBR.out HE.out⟩
          case measure => simp [intOf]; omega
      · have hge2 : ¬ ((q : Int) < (l.length : Int)) := by omega
        have HB := tuck hb
        have HTM : Hid T := hTm.2 (keepsL_end (by omega))
        clear hb hTm
        go_wp2
        go_ret
        exact ⟨ret_bool (tr_of HTM.out).symm, bAfter HB0.out HB.out⟩

theorem index_any (n : Int) (w : World) : Calls Try.prog 89 #[.int .i64 n] w fun e w' => e = .returned (.bool (decide (0 ≤ n ∧ n ≤ 20))) ∧ w = w' := by
  by_cases h0 : 0 ≤ n
  · have g0 : decide (0 ≤ n) = true := by simpa using h0
    by_cases h1 : n ≤ 20
    · have g1 : decide (n ≤ 20) = true := by simpa using h1
      rw [show decide (0 ≤ n ∧ n ≤ 20) = true by simpa using ⟨h0, h1⟩]
      go_enter Try.func89, Try.ntmps89
      go_wp2
      go_ret
      exact ⟨rfl, rfl⟩
    · have g1 : decide (n ≤ 20) = false := by simpa using h1
      rw [show decide (0 ≤ n ∧ n ≤ 20) = false by simp; omega]
      go_enter Try.func89, Try.ntmps89
      go_wp2
      go_ret
      exact ⟨rfl, rfl⟩
  · have g0 : decide (0 ≤ n) = false := by simpa using h0
    rw [show decide (0 ≤ n ∧ n ≤ 20) = false by simp; omega]
    go_enter Try.func89, Try.ntmps89
    go_wp2
    go_ret
    exact ⟨rfl, rfl⟩

/-- What a function of the model leaves: a term that may be read, and whether there is one. -/
def SReplPost (w : World) (P : Prop) (T : Tm) (e : Ending) (w' : World) : Prop := Below w.heap.size w w' ∧ ∃ v, e = .returned (.tuple #[v, .bool (tr P)]) ∧ TmIn w' 0 (orZero P T) v
theorem SReplPost.no {w w' : World} {P : Prop} {T : Tm} (hP : ¬ P) (hb : Below w.heap.size w w') : SReplPost w P T (.returned (.tuple #[.agg #[.int .i64 0, .int .i64 0, .slice none 0 0], .bool false])) w' :=
  ⟨hb, _, by rw [tr_not hP], by unfold orZero; rw [if_neg hP]; exact ⟨_, rfl, SlIn.nil _ _ _ _⟩⟩
theorem SReplPost.yes {w w' : World} {P : Prop} {T : Tm} {s : Value} (hP : P) (hb : Below w.heap.size w w') (hs : SlIn w' 0 T.kids s) : SReplPost w P T (.returned (.tuple #[.agg #[.int .i64 T.kind, .int .i64 T.num, s], .bool true])) w' :=
  ⟨hb, _, by rw [tr_of hP], by unfold orZero; rw [if_pos hP]; exact ⟨_, rfl, hs⟩⟩

theorem SlIn.set3 {w : World} {B g i j k : Nat} {l : List Tm} {v x y z : Value} (h : SlIn w B l v) (hg : g < B) : SlIn (((w.setCell ⟨g, i, none⟩ x).setCell ⟨g, j, none⟩ y).setCell ⟨g, k, none⟩ z) B l v :=
  ((h.setCell (p := ⟨g, i, none⟩) hg _).setCell (p := ⟨g, j, none⟩) hg _).setCell (p := ⟨g, k, none⟩) hg _

set_option maxRecDepth 100000 in
set_option maxHeartbeats 1600000 in
theorem shiftS_any (t : Tm) (e c : Int) (w : World) (v : Value) (h : TmIn w 0 t v) : Calls Try.prog 42 #[v, .int .i64 e, .int .i64 c] w (SReplPost w (ShiftOk t e c) (t.shift e c)) := by
  obtain ⟨s, rfl, hs⟩ := h
  obtain ⟨a, cap, rfl⟩ := hs.form
  have HS := tuck hs
  have HV : Hid (∀ w', Below w.heap.size w w' → Calls Try.prog 53 #[.agg #[.int .i64 t.kind, .int .i64 t.num, .slice a t.kids.length cap]] w' (BoolPost w' (tr t.Valid))) := fun w' h => validS_any t w' _ ⟨_, rfl, hs.below h⟩
  have HX := tuck (index_any c)
  have HN : Hid (¬ ShiftOk t e c → ∀ w', Below w.heap.size w w' → SReplPost w (ShiftOk t e c) (t.shift e c) (.returned (.tuple #[.agg #[.int .i64 0, .int .i64 0, .slice none 0 0], .bool false])) w') := fun h w' hb => SReplPost.no h hb
  clear hs
  by_cases hv : t.Valid
  rotate_left
  · rw [tr_not hv] at HV
    replace HN := tuck (HN.out (fun h => hv h.1))
    generalize SReplPost w (ShiftOk t e c) (t.shift e c) = post at *
    clear hv
    go_enter Try.func42, Try.ntmps42
    go_wp2_with fail
    refine (HV.out _ (below2 _ _ _)).mono ?_
    rintro e' w1 ⟨rfl, hb⟩
    have HB := tuck (bAfter (below2 _ _ _) hb)
    have hv1 := (var_new1 w (.cells #[.int .i64 t.kind, .int .i64 t.num, .slice a t.kids.length cap] 29) 0 0 (.slice none 0 0)).below hb
    have hv0 := ((VarAt.new w t.kind t.num (.slice a t.kids.length cap)).below (below1 _ (.cells #[.int .i64 0, .int .i64 0, .slice none 0 0] 29))).below hb
    obtain ⟨zv, v0, v1, v2, vf⟩ := hv1.facts
    obtain ⟨zt, t0, t1, t2, -⟩ := hv0.facts
    have HV1 := tuck hv1
    have HV0 := tuck hv0
    clear hb hv0 hv1
    go_wp2_with fail
    refine bodyPost_ret (v := .tuple #[.agg #[.int .i64 0, .int .i64 0, .slice none 0 0], .bool false]) (by simp [results, Try.results42, go_sem, *]) rfl (HN.out _ ?_)
    exact bSet3 HB.out (Nat.le_succ _) _ _ _ _ _ _
  rw [tr_of hv] at HV
  by_cases h1 : e < -20
  · have g1 : decide (e < -20) = true := by simpa using h1
    replace HN := tuck (HN.out (fun h => by have := h.2.1; omega))
    generalize SReplPost w (ShiftOk t e c) (t.shift e c) = post at *
    clear hv h1
    go_enter Try.func42, Try.ntmps42
    go_wp2_with fail
    refine (HV.out _ (below2 _ _ _)).mono ?_
    rintro e' w1 ⟨rfl, hb⟩
    have HB := tuck (bAfter (below2 _ _ _) hb)
    have hv1 := (var_new1 w (.cells #[.int .i64 t.kind, .int .i64 t.num, .slice a t.kids.length cap] 29) 0 0 (.slice none 0 0)).below hb
    have hv0 := ((VarAt.new w t.kind t.num (.slice a t.kids.length cap)).below (below1 _ (.cells #[.int .i64 0, .int .i64 0, .slice none 0 0] 29))).below hb
    obtain ⟨zv, v0, v1, v2, vf⟩ := hv1.facts
    obtain ⟨zt, t0, t1, t2, -⟩ := hv0.facts
    have HV1 := tuck hv1
    have HV0 := tuck hv0
    clear hb hv0 hv1
    go_wp2_with fail
    refine bodyPost_ret (v := .tuple #[.agg #[.int .i64 0, .int .i64 0, .slice none 0 0], .bool false]) (by simp [results, Try.results42, go_sem, *]) rfl (HN.out _ ?_)
    exact bSet3 HB.out (Nat.le_succ _) _ _ _ _ _ _
  have g1 : decide (e < -20) = false := by simpa using h1
  by_cases h2 : 20 < e
  · have g2 : decide (20 < e) = true := by simpa using h2
    replace HN := tuck (HN.out (fun h => by have := h.2.2.1; omega))
    generalize SReplPost w (ShiftOk t e c) (t.shift e c) = post at *
    clear hv h1 h2
    go_enter Try.func42, Try.ntmps42
    go_wp2_with fail
    refine (HV.out _ (below2 _ _ _)).mono ?_
    rintro e' w1 ⟨rfl, hb⟩
    have HB := tuck (bAfter (below2 _ _ _) hb)
    have hv1 := (var_new1 w (.cells #[.int .i64 t.kind, .int .i64 t.num, .slice a t.kids.length cap] 29) 0 0 (.slice none 0 0)).below hb
    have hv0 := ((VarAt.new w t.kind t.num (.slice a t.kids.length cap)).below (below1 _ (.cells #[.int .i64 0, .int .i64 0, .slice none 0 0] 29))).below hb
    obtain ⟨zv, v0, v1, v2, vf⟩ := hv1.facts
    obtain ⟨zt, t0, t1, t2, -⟩ := hv0.facts
    have HV1 := tuck hv1
    have HV0 := tuck hv0
    clear hb hv0 hv1
    go_wp2_with fail
    refine bodyPost_ret (v := .tuple #[.agg #[.int .i64 0, .int .i64 0, .slice none 0 0], .bool false]) (by simp [results, Try.results42, go_sem, *]) rfl (HN.out _ ?_)
    exact bSet3 HB.out (Nat.le_succ _) _ _ _ _ _ _
  have g2 : decide (20 < e) = false := by simpa using h2
  by_cases h3 : 0 ≤ c ∧ c ≤ 20
  rotate_left
  · rw [show decide (0 ≤ c ∧ c ≤ 20) = false by simpa using h3] at HX
    replace HN := tuck (HN.out (fun h => h3 ⟨h.2.2.2.1, h.2.2.2.2.1⟩))
    generalize SReplPost w (ShiftOk t e c) (t.shift e c) = post at *
    clear hv h1 h2 h3
    go_enter Try.func42, Try.ntmps42
    go_wp2_with fail
    refine (HV.out _ (below2 _ _ _)).mono ?_
    rintro e' w1 ⟨rfl, hb⟩
    have HB := tuck (bAfter (below2 _ _ _) hb)
    have hv1 := (var_new1 w (.cells #[.int .i64 t.kind, .int .i64 t.num, .slice a t.kids.length cap] 29) 0 0 (.slice none 0 0)).below hb
    have hv0 := ((VarAt.new w t.kind t.num (.slice a t.kids.length cap)).below (below1 _ (.cells #[.int .i64 0, .int .i64 0, .slice none 0 0] 29))).below hb
    obtain ⟨zv, v0, v1, v2, vf⟩ := hv1.facts
    obtain ⟨zt, t0, t1, t2, -⟩ := hv0.facts
    have HV1 := tuck hv1
    have HV0 := tuck hv0
    clear hb hv0 hv1
    go_wp2_with (go_at_call 89; refine (HX.out _).mono ?_; rintro e' w' ⟨rfl, rfl⟩)
    refine bodyPost_ret (v := .tuple #[.agg #[.int .i64 0, .int .i64 0, .slice none 0 0], .bool false]) (by simp [results, Try.results42, go_sem, *]) rfl (HN.out _ ?_)
    exact bSet3 HB.out (Nat.le_succ _) _ _ _ _ _ _
  rw [show decide (0 ≤ c ∧ c ≤ 20) = true by simpa using h3] at HX
  obtain ⟨b1, b2⟩ := valid_bounds hv
  have hok := t.allOk_iff.1 hv.1
  have hrn := root_num2 hok.1
  have hrl := root_len hok.1
  have HK : Hid (e < 0 → ∀ w', Below w.heap.size w w' → Calls Try.prog 90 #[.agg #[.int .i64 t.kind, .int .i64 t.num, .slice a t.kids.length cap], .int .i64 c, .int .i64 (-e)] w' (BoolPost w' (tr (t.keeps e c)))) := fun he w' hw => by
    have := keeps_any (r := -e) (by omega) (by omega) t.kids t.kind t.num c w' _ h3.1 (by omega) (HS.out.below hw)
    rwa [Tm.eta, Int.neg_neg] at this
  have HSH : Hid (∀ w', Below w.heap.size w w' → Calls Try.prog 91 #[.agg #[.int .i64 t.kind, .int .i64 t.num, .slice a t.kids.length cap], .int .i64 e, .int .i64 c] w' (MadePost w' (t.shift e c))) := fun w' hw => by
    have := lshift_any (e := e) (by omega) (by omega) t.kids t.kind t.num c w' _ (by omega) (by omega) h3.1 (by omega) (by omega) ((allsOk_iff _).1 hok.2) (HS.out.below hw)
    rwa [Tm.eta] at this
  have HV2 : Hid (∀ w' v', TmIn w' 0 (t.shift e c) v' → Calls Try.prog 53 #[v'] w' (BoolPost w' (tr (t.shift e c).Valid))) := fun w' v' h => validS_any _ w' v' h
  have HNEG : Hid (IntKind.i64.wrap (-e) = -e) := IntWalk.i64_in _ (by omega)
  have HQ : Hid (ShiftOk t e c ↔ t.keeps e c ∧ (t.shift e c).Valid) := ⟨fun h => ⟨h.2.2.2.2.2.1, h.2.2.2.2.2.2⟩, fun h => ⟨hv, by omega, by omega, h3.1, h3.2, h.1, h.2⟩⟩
  have HY : Hid (ShiftOk t e c → ∀ w' s, Below w.heap.size w w' → SlIn w' 0 (t.shift e c).kids s → SReplPost w (ShiftOk t e c) (t.shift e c) (.returned (.tuple #[.agg #[.int .i64 (t.shift e c).kind, .int .i64 (t.shift e c).num, s], .bool true])) w') := fun h w' s a1 a2 => SReplPost.yes h a1 a2
  have HKP : Hid (0 ≤ e → t.keeps e c) := fun h => Tm.keeps_pos h _ _
  generalize SReplPost w (ShiftOk t e c) (t.shift e c) = post at *
  generalize ShiftOk t e c = Q at *
  generalize t.shift e c = T at *
  generalize t.keeps e c = K0 at *
  clear hv h1 h2 h3 hok hrn hrl b1 b2
  by_cases hk : K0
  rotate_left
  · have he : e < 0 := by
      by_cases h : 0 ≤ e
      · exact absurd (HKP.out h) hk
      · omega
    have g3 : decide (e < 0) = true := by simpa using he
    replace HK := tuck (HK.out he)
    rw [tr_not hk] at HK
    replace HN := tuck (HN.out (fun h => hk (HQ.out.1 h).1))
    clear hk he
    have hneg := HNEG.out
    go_enter Try.func42, Try.ntmps42
    go_wp2_with fail
    refine (HV.out _ (below2 _ _ _)).mono ?_
    rintro e' w1 ⟨rfl, hb⟩
    have HB := tuck (bAfter (below2 _ _ _) hb)
    have hv1 := (var_new1 w (.cells #[.int .i64 t.kind, .int .i64 t.num, .slice a t.kids.length cap] 29) 0 0 (.slice none 0 0)).below hb
    have hv0 := ((VarAt.new w t.kind t.num (.slice a t.kids.length cap)).below (below1 _ (.cells #[.int .i64 0, .int .i64 0, .slice none 0 0] 29))).below hb
    obtain ⟨zv, v0, v1, v2, vf⟩ := hv1.facts
    obtain ⟨zt, t0, t1, t2, -⟩ := hv0.facts
    have HV1 := tuck hv1
    have HV0 := tuck hv0
    clear hb hv0 hv1
    go_wp2_with (go_at_call 89; refine (HX.out _).mono ?_; rintro e' w' ⟨rfl, rfl⟩)
    refine (HK.out _ HB.out).mono ?_
    rintro e' w2 ⟨rfl, hb⟩
    replace HB := tuck (bAfter HB.out hb)
    replace HV1 := tuck (HV1.out.below hb)
    replace HV0 := tuck (HV0.out.below hb)
    clear hb v0 v1 v2 vf t0 t1 t2 zv zt
    obtain ⟨zv, v0, v1, v2, vf⟩ := HV1.out.facts
    obtain ⟨zt, t0, t1, t2, -⟩ := HV0.out.facts
    go_wp2_with fail
    refine bodyPost_ret (v := .tuple #[.agg #[.int .i64 0, .int .i64 0, .slice none 0 0], .bool false]) (by simp [results, Try.results42, go_sem, *]) rfl (HN.out _ ?_)
    exact bSet3 HB.out (Nat.le_succ _) _ _ _ _ _ _
  by_cases he : e < 0
  · have g3 : decide (e < 0) = true := by simpa using he
    replace HK := tuck (HK.out he)
    rw [tr_of hk] at HK
    clear he
    have hneg := HNEG.out
    by_cases hT : T.Valid
    · skip
      have HYY := tuck (HY.out (HQ.out.2 ⟨hk, hT⟩))
      rw [tr_of hT] at HV2
      clear hk hT
      go_enter Try.func42, Try.ntmps42
      go_wp2_with fail
      refine (HV.out _ (below2 _ _ _)).mono ?_
      rintro e' w1 ⟨rfl, hb⟩
      have HB := tuck (bAfter (below2 _ _ _) hb)
      have hv1 := (var_new1 w (.cells #[.int .i64 t.kind, .int .i64 t.num, .slice a t.kids.length cap] 29) 0 0 (.slice none 0 0)).below hb
      have hv0 := ((VarAt.new w t.kind t.num (.slice a t.kids.length cap)).below (below1 _ (.cells #[.int .i64 0, .int .i64 0, .slice none 0 0] 29))).below hb
      obtain ⟨zv, v0, v1, v2, vf⟩ := hv1.facts
      obtain ⟨zt, t0, t1, t2, -⟩ := hv0.facts
      have HV1 := tuck hv1
      have HV0 := tuck hv0
      clear hb hv0 hv1
      go_wp2_with (go_at_call 89; refine (HX.out _).mono ?_; rintro e' w' ⟨rfl, rfl⟩)
      refine (HK.out _ HB.out).mono ?_
      rintro e' w2 ⟨rfl, hb⟩
      replace HB := tuck (bAfter HB.out hb)
      replace HV1 := tuck (HV1.out.below hb)
      replace HV0 := tuck (HV0.out.below hb)
      clear hb v0 v1 v2 vf t0 t1 t2 zv zt
      obtain ⟨zv, v0, v1, v2, vf⟩ := HV1.out.facts
      obtain ⟨zt, t0, t1, t2, -⟩ := HV0.out.facts
      go_wp2_with fail
      refine (HSH.out _ HB.out).mono ?_
      rintro e' w5 ⟨hb5, tv, rfl, ts, F, rfl, hso, hnd, hF⟩
      obtain ⟨ta, tc, rfl⟩ := hso.form
      have hsl : SlIn w5 (w.heap.size + 1 + 1) T.kids (.slice ta T.kids.length tc) := hso.sl (fun g hg => by have := (hF g hg).1; have := zv; omega)
      replace HB := tuck (bAfter HB.out hb5)
      replace HV1 := tuck (HV1.out.below hb5)
      have HSL := tuck hsl
      clear hb5 hso hnd hF hsl v0 v1 v2 vf t0 t1 t2 zv zt
      go_wp2_with fail
      refine (HV2.out _ _ ⟨_, rfl, (HSL.out.mono (Nat.zero_le _)).below (below1 _ _)⟩).mono ?_
      rintro e' w6 ⟨rfl, hb6⟩
      have hvo := (VarAt.new w5 T.kind T.num (.slice ta T.kids.length tc)).below hb6
      obtain ⟨zo, o0, o1, o2, -⟩ := hvo.facts
      replace HV1 := tuck ((HV1.out.below (below1 _ _)).below hb6)
      replace HSL := tuck ((HSL.out.below (below1 _ _)).below hb6)
      replace HB := tuck (bAfter HB.out (bAfter (below1 _ _) hb6))
      obtain ⟨zv, v0, v1, v2, vf⟩ := HV1.out.facts
      clear hb6 hvo
      go_wp2_with fail
      refine bodyPost_ret (v := .tuple #[.agg #[.int .i64 T.kind, .int .i64 T.num, .slice ta T.kids.length tc], .bool true]) (by simp [results, Try.results42, go_sem, *]) rfl (HYY.out _ _ ?_ ?_)
      · exact bSet3 HB.out (Nat.le_succ _) _ _ _ _ _ _
      · exact (HSL.out.set3 (Nat.lt_succ_self _)).mono (Nat.zero_le _)
    · skip
      replace HN := tuck (HN.out (fun h => hT (HQ.out.1 h).2))
      rw [tr_not hT] at HV2
      clear hk hT
      go_enter Try.func42, Try.ntmps42
      go_wp2_with fail
      refine (HV.out _ (below2 _ _ _)).mono ?_
      rintro e' w1 ⟨rfl, hb⟩
      have HB := tuck (bAfter (below2 _ _ _) hb)
      have hv1 := (var_new1 w (.cells #[.int .i64 t.kind, .int .i64 t.num, .slice a t.kids.length cap] 29) 0 0 (.slice none 0 0)).below hb
      have hv0 := ((VarAt.new w t.kind t.num (.slice a t.kids.length cap)).below (below1 _ (.cells #[.int .i64 0, .int .i64 0, .slice none 0 0] 29))).below hb
      obtain ⟨zv, v0, v1, v2, vf⟩ := hv1.facts
      obtain ⟨zt, t0, t1, t2, -⟩ := hv0.facts
      have HV1 := tuck hv1
      have HV0 := tuck hv0
      clear hb hv0 hv1
      go_wp2_with (go_at_call 89; refine (HX.out _).mono ?_; rintro e' w' ⟨rfl, rfl⟩)
      refine (HK.out _ HB.out).mono ?_
      rintro e' w2 ⟨rfl, hb⟩
      replace HB := tuck (bAfter HB.out hb)
      replace HV1 := tuck (HV1.out.below hb)
      replace HV0 := tuck (HV0.out.below hb)
      clear hb v0 v1 v2 vf t0 t1 t2 zv zt
      obtain ⟨zv, v0, v1, v2, vf⟩ := HV1.out.facts
      obtain ⟨zt, t0, t1, t2, -⟩ := HV0.out.facts
      go_wp2_with fail
      refine (HSH.out _ HB.out).mono ?_
      rintro e' w5 ⟨hb5, tv, rfl, ts, F, rfl, hso, hnd, hF⟩
      obtain ⟨ta, tc, rfl⟩ := hso.form
      have hsl : SlIn w5 (w.heap.size + 1 + 1) T.kids (.slice ta T.kids.length tc) := hso.sl (fun g hg => by have := (hF g hg).1; have := zv; omega)
      replace HB := tuck (bAfter HB.out hb5)
      replace HV1 := tuck (HV1.out.below hb5)
      have HSL := tuck hsl
      clear hb5 hso hnd hF hsl v0 v1 v2 vf t0 t1 t2 zv zt
      go_wp2_with fail
      refine (HV2.out _ _ ⟨_, rfl, (HSL.out.mono (Nat.zero_le _)).below (below1 _ _)⟩).mono ?_
      rintro e' w6 ⟨rfl, hb6⟩
      have hvo := (VarAt.new w5 T.kind T.num (.slice ta T.kids.length tc)).below hb6
      obtain ⟨zo, o0, o1, o2, -⟩ := hvo.facts
      replace HV1 := tuck ((HV1.out.below (below1 _ _)).below hb6)
      replace HSL := tuck ((HSL.out.below (below1 _ _)).below hb6)
      replace HB := tuck (bAfter HB.out (bAfter (below1 _ _) hb6))
      obtain ⟨zv, v0, v1, v2, vf⟩ := HV1.out.facts
      clear hb6 hvo
      go_wp2_with fail
      refine bodyPost_ret (v := .tuple #[.agg #[.int .i64 0, .int .i64 0, .slice none 0 0], .bool false]) (by simp [results, Try.results42, go_sem, *]) rfl (HN.out _ ?_)
      exact bSet3 HB.out (Nat.le_succ _) _ _ _ _ _ _
  · have g3 : decide (e < 0) = false := by simpa using he
    clear he HK
    by_cases hT : T.Valid
    · skip
      have HYY := tuck (HY.out (HQ.out.2 ⟨hk, hT⟩))
      rw [tr_of hT] at HV2
      clear hk hT
      go_enter Try.func42, Try.ntmps42
      go_wp2_with fail
      refine (HV.out _ (below2 _ _ _)).mono ?_
      rintro e' w1 ⟨rfl, hb⟩
      have HB := tuck (bAfter (below2 _ _ _) hb)
      have hv1 := (var_new1 w (.cells #[.int .i64 t.kind, .int .i64 t.num, .slice a t.kids.length cap] 29) 0 0 (.slice none 0 0)).below hb
      have hv0 := ((VarAt.new w t.kind t.num (.slice a t.kids.length cap)).below (below1 _ (.cells #[.int .i64 0, .int .i64 0, .slice none 0 0] 29))).below hb
      obtain ⟨zv, v0, v1, v2, vf⟩ := hv1.facts
      obtain ⟨zt, t0, t1, t2, -⟩ := hv0.facts
      have HV1 := tuck hv1
      have HV0 := tuck hv0
      clear hb hv0 hv1
      go_wp2_with (go_at_call 89; refine (HX.out _).mono ?_; rintro e' w' ⟨rfl, rfl⟩)
      refine (HSH.out _ HB.out).mono ?_
      rintro e' w5 ⟨hb5, tv, rfl, ts, F, rfl, hso, hnd, hF⟩
      obtain ⟨ta, tc, rfl⟩ := hso.form
      have hsl : SlIn w5 (w.heap.size + 1 + 1) T.kids (.slice ta T.kids.length tc) := hso.sl (fun g hg => by have := (hF g hg).1; have := zv; omega)
      replace HB := tuck (bAfter HB.out hb5)
      replace HV1 := tuck (HV1.out.below hb5)
      have HSL := tuck hsl
      clear hb5 hso hnd hF hsl v0 v1 v2 vf t0 t1 t2 zv zt
      go_wp2_with fail
      refine (HV2.out _ _ ⟨_, rfl, (HSL.out.mono (Nat.zero_le _)).below (below1 _ _)⟩).mono ?_
      rintro e' w6 ⟨rfl, hb6⟩
      have hvo := (VarAt.new w5 T.kind T.num (.slice ta T.kids.length tc)).below hb6
      obtain ⟨zo, o0, o1, o2, -⟩ := hvo.facts
      replace HV1 := tuck ((HV1.out.below (below1 _ _)).below hb6)
      replace HSL := tuck ((HSL.out.below (below1 _ _)).below hb6)
      replace HB := tuck (bAfter HB.out (bAfter (below1 _ _) hb6))
      obtain ⟨zv, v0, v1, v2, vf⟩ := HV1.out.facts
      clear hb6 hvo
      go_wp2_with fail
      refine bodyPost_ret (v := .tuple #[.agg #[.int .i64 T.kind, .int .i64 T.num, .slice ta T.kids.length tc], .bool true]) (by simp [results, Try.results42, go_sem, *]) rfl (HYY.out _ _ ?_ ?_)
      · exact bSet3 HB.out (Nat.le_succ _) _ _ _ _ _ _
      · exact (HSL.out.set3 (Nat.lt_succ_self _)).mono (Nat.zero_le _)
    · skip
      replace HN := tuck (HN.out (fun h => hT (HQ.out.1 h).2))
      rw [tr_not hT] at HV2
      clear hk hT
      go_enter Try.func42, Try.ntmps42
      go_wp2_with fail
      refine (HV.out _ (below2 _ _ _)).mono ?_
      rintro e' w1 ⟨rfl, hb⟩
      have HB := tuck (bAfter (below2 _ _ _) hb)
      have hv1 := (var_new1 w (.cells #[.int .i64 t.kind, .int .i64 t.num, .slice a t.kids.length cap] 29) 0 0 (.slice none 0 0)).below hb
      have hv0 := ((VarAt.new w t.kind t.num (.slice a t.kids.length cap)).below (below1 _ (.cells #[.int .i64 0, .int .i64 0, .slice none 0 0] 29))).below hb
      obtain ⟨zv, v0, v1, v2, vf⟩ := hv1.facts
      obtain ⟨zt, t0, t1, t2, -⟩ := hv0.facts
      have HV1 := tuck hv1
      have HV0 := tuck hv0
      clear hb hv0 hv1
      go_wp2_with (go_at_call 89; refine (HX.out _).mono ?_; rintro e' w' ⟨rfl, rfl⟩)
      refine (HSH.out _ HB.out).mono ?_
      rintro e' w5 ⟨hb5, tv, rfl, ts, F, rfl, hso, hnd, hF⟩
      obtain ⟨ta, tc, rfl⟩ := hso.form
      have hsl : SlIn w5 (w.heap.size + 1 + 1) T.kids (.slice ta T.kids.length tc) := hso.sl (fun g hg => by have := (hF g hg).1; have := zv; omega)
      replace HB := tuck (bAfter HB.out hb5)
      replace HV1 := tuck (HV1.out.below hb5)
      have HSL := tuck hsl
      clear hb5 hso hnd hF hsl v0 v1 v2 vf t0 t1 t2 zv zt
      go_wp2_with fail
      refine (HV2.out _ _ ⟨_, rfl, (HSL.out.mono (Nat.zero_le _)).below (below1 _ _)⟩).mono ?_
      rintro e' w6 ⟨rfl, hb6⟩
      have hvo := (VarAt.new w5 T.kind T.num (.slice ta T.kids.length tc)).below hb6
      obtain ⟨zo, o0, o1, o2, -⟩ := hvo.facts
      replace HV1 := tuck ((HV1.out.below (below1 _ _)).below hb6)
      replace HSL := tuck ((HSL.out.below (below1 _ _)).below hb6)
      replace HB := tuck (bAfter HB.out (bAfter (below1 _ _) hb6))
      obtain ⟨zv, v0, v1, v2, vf⟩ := HV1.out.facts
      clear hb6 hvo
      go_wp2_with fail
      refine bodyPost_ret (v := .tuple #[.agg #[.int .i64 0, .int .i64 0, .slice none 0 0], .bool false]) (by simp [results, Try.results42, go_sem, *]) rfl (HN.out _ ?_)
      exact bSet3 HB.out (Nat.le_succ _) _ _ _ _ _ _

end Go.Proofs.Ytohlpjfhhbcebaa
