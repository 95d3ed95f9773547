/-
  spec.l2Times, CountVar, FreeAt, l2Most, MaxFree answer as 'countOf', 'maxFreeOf' say.
-/
import Derived.Test.YteeafpnjpcgfaaaGreatBind
import Derived.Test.YteeafpnjpcgfaaaGreatSpecV
import Derived.Deep.RegionHeld3
import Derived.IntWalk
namespace Go.Proofs.YteeafpnjpcgfaaaGreat
open Go.RowKit

set_option maxRecDepth 100000 in
theorem binds_any (k : Int) (i : Nat) (w : World) : Calls Tryz.prog 95 #[.int .i64 k, .int .i64 i] w fun e w' => e = .returned (.bool (decide (under k i = 1))) ∧ w = w' := by
  by_cases h1 : i = 1
  · subst h1
    by_cases h : k = 3
    · subst h
      go_enter Tryz.func95, Tryz.ntmps95
      go_wp2
      go_ret
      exact ⟨rfl, rfl⟩
    · by_cases h' : k = 4
      · subst h'
        go_enter Tryz.func95, Tryz.ntmps95
        go_wp2
        go_ret
        exact ⟨rfl, rfl⟩
      · have g1 : (k == 3) = false := by simpa using h
        have g2 : (k == 4) = false := by simpa using h'
        have HU : Hid (decide (under k 1 = 1) = (k == 13)) := by
          show _ = _
          unfold under
          rw [Bool.eq_iff_iff]
          simp [h, h']
        rw [HU.out]
        clear h h'
        go_enter Tryz.func95, Tryz.ntmps95
        go_wp2
        go_ret
        exact ⟨rfl, rfl⟩
  · have g0 : ((i : Int) == 1) = false := by simp; omega
    rw [show decide (under k i = 1) = false by unfold under; simp [h1]]
    clear h1
    go_enter Tryz.func95, Tryz.ntmps95
    go_wp2
    go_ret
    exact ⟨rfl, rfl⟩

theorem under_any (k : Int) (i : Nat) (w : World) : Calls Tryz.prog 71 #[.int .i64 k, .int .i64 i] w fun e w' => e = .returned (.int .i64 (under k i)) ∧ w = w' := by
  have HB := tuck (binds_any k i)
  have hu := under_01 k i
  by_cases h : under k i = 1
  · rw [show decide (under k i = 1) = true by simpa using h] at HB
    rw [h]
    clear h hu
    go_enter Tryz.func71, Tryz.ntmps71
    go_wp2_with (go_at_call 95; refine (HB.out _).mono ?_; rintro e w' ⟨rfl, rfl⟩)
    go_ret
    exact ⟨rfl, rfl⟩
  · rw [show decide (under k i = 1) = false by simpa using h] at HB
    rw [show under k i = 0 by omega]
    clear h hu
    go_enter Tryz.func71, Tryz.ntmps71
    go_wp2_with (go_at_call 95; refine (HB.out _).mono ?_; rintro e w' ⟨rfl, rfl⟩)
    go_ret
    exact ⟨rfl, rfl⟩

/-- What is held through a region that calls: a term's box, and a row's three cells. -/
theorem hold_below {w w' : World} {W : World} {g bb o : Nat} {k : Int} {v v2 : Value} {k1 n1 : Int}
    (h : Below W.heap.size W w ∧ (g < w.heap.size ∧ bb < w.heap.size) ∧ w.cell? ⟨g, 0, none⟩ = some (.int .i64 k) ∧ w.cell? ⟨g, 2, none⟩ = some v ∧ w.cell? ⟨bb, o, none⟩ = some (.int .i64 k1) ∧ w.cell? ⟨bb, o + 1, none⟩ = some (.int .i64 n1) ∧ w.cell? ⟨bb, o + 2, none⟩ = some v2)
    (hb : Below w.heap.size w w') :
    Below W.heap.size W w' ∧ (g < w'.heap.size ∧ bb < w'.heap.size) ∧ w'.cell? ⟨g, 0, none⟩ = some (.int .i64 k) ∧ w'.cell? ⟨g, 2, none⟩ = some v ∧ w'.cell? ⟨bb, o, none⟩ = some (.int .i64 k1) ∧ w'.cell? ⟨bb, o + 1, none⟩ = some (.int .i64 n1) ∧ w'.cell? ⟨bb, o + 2, none⟩ = some v2 := by
  obtain ⟨h0, ⟨z0, z1⟩, h1, h2, h3, h4, h5⟩ := h
  have := hb.size
  exact ⟨bAfter h0 hb, ⟨by omega, by omega⟩, (hb.cell (p := ⟨g, 0, none⟩) z0).trans h1, (hb.cell (p := ⟨g, 2, none⟩) z0).trans h2, (hb.cell (p := ⟨bb, o, none⟩) z1).trans h3, (hb.cell (p := ⟨bb, o + 1, none⟩) z1).trans h4, (hb.cell (p := ⟨bb, o + 2, none⟩) z1).trans h5⟩

theorem hold_fst {p q : Prop} (h : p ∧ q) : p := h.1
theorem mem_hgts' {l : List Tm} {i : Nat} (h : i < l.length) : l[i].hgt ≤ hgts l := (hgts_le l (hgts l)).1 (Nat.le_refl _) _ (List.getElem_mem h)

/-- A valid term's bounds. -/
theorem valid_bounds {t : Tm} (h : t.Valid) : sizes t.kids ≤ 399 ∧ hgts t.kids ≤ 29 := by
  have h1 := h.2.1
  have h2 := h.2.2
  rw [Tm.hgt_eq] at h1
  rw [Tm.size_eq] at h2
  omega

theorem count_pos (t : Tm) (x : Int) : decide (0 < countOf t x) = (countOf t x != 0) := by
  have h : 0 ≤ countOf t x := by
    unfold countOf
    have := t.times_bd x
    split <;> omega
  rw [Bool.eq_iff_iff]
  simp
  omega

theorem root_num' {t : Tm} (h : t.rootOk) : t.num ≤ 20 := by
  have h1 := h.2
  unfold mostN at h1
  split at h1
  · omega
  · split at h1 <;> omega

set_option maxRecDepth 100000 in
theorem most_any' : ∀ (l : List Tm) (k n x : Int) (w : World) (s : Value), allsOk l → (k = 1 → n ≤ 20) → 0 ≤ x → x + hgts l ≤ 1000 → SlIn w 0 l s →
    Calls Tryz.prog 70 #[.agg #[.int .i64 k, .int .i64 n, s], .int .i64 x] w (IntPost w ((Tm.mk k n l).most x)) := by
  intro l
  induction l using Tm.ind with
  | h l ih =>
  intro k n x w v hok hkn hx0 hx1 hin
  obtain ⟨a, cap, bb, o, rfl, hl, hp, hc⟩ := hin.open
  clear hin
  have hst : (Tm.mk k n l).most x = max (if k = 1 ∧ x ≤ n then n - x + 1 else 0) (mostL k l 0 x) := by rw [Tm.most]
  have hbd := mostL_bd l k 0 x hok hx0
  obtain ⟨T, hT⟩ : ∃ T, (Tm.mk k n l).most x = T := ⟨_, rfl⟩
  rw [hT]
  have HI := tuck ih
  have HP := tuck hp
  have HC := tuck hc
  have HOK := tuck hok
  have HCASE : ((k == 1) = true ∧ decide (x ≤ n) = true ∧ (n ≤ 20 ∧ x ≤ n) ∧ T = max (n - x + 1) (mostL k l 0 x)) ∨ ((k == 1) = true ∧ decide (x ≤ n) = false ∧ (0 ≤ x ∧ 0 ≤ x) ∧ T = max 0 (mostL k l 0 x)) ∨ ((k == 1) = false ∧ (n == x) = (n == x) ∧ (0 ≤ x ∧ 0 ≤ x) ∧ T = max 0 (mostL k l 0 x)) := by
    rw [← hT, hst]
    by_cases h1 : k = 1
    · by_cases h2 : x ≤ n
      · exact Or.inl ⟨by simpa using h1, by simpa using h2, ⟨hkn h1, h2⟩, by rw [if_pos ⟨h1, h2⟩]⟩
      · exact Or.inr (Or.inl ⟨by simpa using h1, by simpa using h2, ⟨hx0, hx0⟩, by rw [if_neg (fun h => h2 h.2)]⟩)
    · exact Or.inr (Or.inr ⟨by simpa using h1, rfl, ⟨hx0, hx0⟩, by rw [if_neg (fun h => h1 h.1)]⟩)
  clear ih hp hc hst hT hbd hok hkn
  unfold maxLen at hl
  obtain ⟨g1, g2, ⟨y1, y2⟩, hT⟩ | ⟨g1, g2, ⟨y1, y2⟩, hT⟩ | ⟨g1, -, ⟨y1, y2⟩, hT⟩ := HCASE
  all_goals
    have HT := tuck hT
    clear hT
    go_enter Tryz.func70, Tryz.ntmps70
    go_wp2_with fail
    have hb0 : Below w.heap.size w (w.alloc (.cells #[.int .i64 k, .int .i64 n, .slice a l.length cap] 29)) := below1 _ _
    have hbox : (w.alloc (.cells #[.int .i64 k, .int .i64 n, .slice a l.length cap] 29)).cell? ⟨w.heap.size, 2, none⟩ = some (.slice a l.length cap) := by go_simp
    have hbox0 : (w.alloc (.cells #[.int .i64 k, .int .i64 n, .slice a l.length cap] 29)).cell? ⟨w.heap.size, 0, none⟩ = some (.int .i64 k) := by go_simp
    have hz0 : w.heap.size < (w.alloc (.cells #[.int .i64 k, .int .i64 n, .slice a l.length cap] 29)).heap.size := by go_simp
    generalize (w.alloc (.cells #[.int .i64 k, .int .i64 n, .slice a l.length cap] 29)) = W0 at *
    have HBOX := tuck hbox
    have HBOX0 := tuck hbox0
    have HB0 := tuck hb0
    clear hbox hbox0 hb0 g1
    try clear g2
    go_loopw [6, 5] (fun i c wr => ∃ (q : Nat) (m : Int), q ≤ l.length ∧ i = .int .i64 q ∧ c = .int .i64 m ∧ 0 ≤ m ∧ T = max m (mostL k (l.drop q) q x) ∧ Below W0.heap.size W0 wr) (fun i _ _ => l.length - (intOf i).toNat)
    case atStart => exact ⟨0, _, Nat.zero_le _, rfl, rfl, by omega, HT.out, Below.refl _ _⟩
    case round =>
      obtain ⟨q, m, hq, rfl, rfl, hm, hTm, hb⟩ := hrel
      have hbox : wr.cell? ⟨w.heap.size, 2, none⟩ = some (.slice a l.length cap) := (hb.cell (p := ⟨w.heap.size, 2, none⟩) hz0).trans HBOX.out
      by_cases hlt : q < l.length
      · have hlti : ((q : Int) < (l.length : Int)) := by omega
        have hbox0 : wr.cell? ⟨w.heap.size, 0, none⟩ = some (.int .i64 k) := (hb.cell (p := ⟨w.heap.size, 0, none⟩) hz0).trans HBOX0.out
        have hzr : w.heap.size < wr.heap.size := Nat.lt_of_lt_of_le hz0 hb.size
        have hokq : l[q].allOk := (allsOk_iff l).1 HOK.out _ (List.getElem_mem hlt)
        have hokd : allsOk (l.drop (q + 1)) := (allsOk_iff _).2 fun t ht => (allsOk_iff l).1 HOK.out _ (List.mem_of_mem_drop ht)
        have hh := mem_hgts' hlt
        have hund := under_01 k q
        have htd := mostL_drop (k := k) (b := x) hlt
        have hbd1 := Tm.most_bd l[q] (x + under k q) hokq (by omega)
        have hbd2 := mostL_bd (l.drop (q + 1)) k (q + 1) x hokd hx0
        obtain ⟨rfl, _, hbw⟩ := HP.out (by intro e; rw [e] at hlt; simp at hlt)
        obtain ⟨s, c0, c1, c2, hs⟩ := HC.out q hlt
        obtain ⟨sa, sc, rfl⟩ := hs.form
        have hbb := bAfter HB0.out hb
        replace c0 := (hbb.cell (p := ⟨bb, o + q * 3, none⟩) hbw).trans c0
        replace c1 := (hbb.cell (p := ⟨bb, o + q * 3 + 1, none⟩) hbw).trans c1
        replace c2 := (hbb.cell (p := ⟨bb, o + q * 3 + 2, none⟩) hbw).trans c2
        have hbr : bb < wr.heap.size := World.block_lt_of_cell? wr _ c0
        have HBB := tuck hbb
        have HS2 := tuck hs
        have HI' := tuck (HI.out q hlt l[q].kind l[q].num)
        rw [Tm.eta] at HI'
        clear hbb hs HI
        generalize l[q] = y at *
        have HH := tuck hh
        have HTD := tuck htd
        have HTM := tuck hTm
        generalize hrest : mostL k (l.drop (q + 1)) (q + 1) x = rest at *
        have HREST := tuck hrest
        clear hrest
        have hx2 : 0 ≤ x + under k q ∧ x + under k q + hgts y.kids ≤ 1000 := by rw [Tm.hgt_eq] at hh; omega
        have hsy : allsOk y.kids ∧ (y.kind = 1 → y.num ≤ 20) := by
          rw [Tm.allOk_iff] at hokq
          exact ⟨hokq.2, fun h => (root_num' hokq.1)⟩
        have hy0 : 0 ≤ y.most (x + under k q) := hbd1.1
        have HX2 := tuck hx2
        have HSY := tuck hsy
        have HW1 : IntKind.i64.wrap (x + under k q) = x + under k q := IntWalk.i64_in _ (by omega)
        have hqi : (0 : Int) ≤ (q : Int) := by omega
        have HBR := tuck hb
        clear hbd1 hbd2 hokq hokd hh htd hTm hx2 hsy hund hb
        have HBX : Hid (Below wr.heap.size wr wr.drew ∧ (w.heap.size < wr.drew.heap.size ∧ bb < wr.drew.heap.size) ∧ wr.drew.cell? ⟨w.heap.size, 0, none⟩ = some (.int .i64 k) ∧ wr.drew.cell? ⟨w.heap.size, 2, none⟩ = some (.slice (some ⟨bb, o, none⟩) l.length cap) ∧ wr.drew.cell? ⟨bb, o + q * 3, none⟩ = some (.int .i64 y.kind) ∧ wr.drew.cell? ⟨bb, o + q * 3 + 1, none⟩ = some (.int .i64 y.num) ∧ wr.drew.cell? ⟨bb, o + q * 3 + 2, none⟩ = some (.slice sa y.kids.length sc)) := tuck ⟨(Below.refl _ _).drew, ⟨hzr, hbr⟩, hbox0, hbox, c0, c1, c2⟩
        go_wp2_with fail
        go_region_held3 (fun w' => Below wr.heap.size wr w' ∧ (w.heap.size < w'.heap.size ∧ bb < w'.heap.size) ∧ w'.cell? ⟨w.heap.size, 0, none⟩ = some (.int .i64 k) ∧ w'.cell? ⟨w.heap.size, 2, none⟩ = some (.slice (some ⟨bb, o, none⟩) l.length cap) ∧ w'.cell? ⟨bb, o + q * 3, none⟩ = some (.int .i64 y.kind) ∧ w'.cell? ⟨bb, o + q * 3 + 1, none⟩ = some (.int .i64 y.num) ∧ w'.cell? ⟨bb, o + q * 3 + 2, none⟩ = some (.slice sa y.kids.length sc)) (first | exact HBX.out | assumption | exact hold_below (by assumption) hb3) (first | (go_at_call 71; refine (under_any k q _).mono ?_; rintro e w2 ⟨rfl, rfl⟩) | (go_at_call 70; refine (HI'.out _ _ _ HSY.out.1 HSY.out.2 HX2.out.1 HX2.out.2 (HS2.out.below (bAfter HBB.out (hold_fst (by assumption))))).mono ?_; rintro e w3 ⟨rfl, hb3⟩))
        have HE : Hid (Below wr.heap.size wr w3) := hold_fst (by assumption)
        clear HW1
        go_wp2_with fail
        all_goals
          go_roundw
          case rel => exact ⟨q + 1, _, by omega, by go_num, rfl, by omega, by rw [HTM.out, HTD.out, HREST.out]; omega, bAfter HBR.out HE.out⟩
          case measure => simp [intOf]; omega
      · have hge2 : ¬ ((q : Int) < (l.length : Int)) := by omega
        have HB := tuck hb
        have HTM : Hid (T = m) := by
          rw [mostL_end (by omega)] at hTm
          show T = m
          omega
        clear hb hTm
        go_wp2
        go_ret
        exact ⟨ret_int HTM.out.symm, bAfter HB0.out HB.out⟩


theorem maxFreeS_any (t : Tm) (w : World) (v : Value) (h : TmIn w 0 t v) : Calls Tryz.prog 39 #[v] w (IntPost w (maxFreeOf t)) := by
  obtain ⟨s, rfl, hs⟩ := h
  obtain ⟨a, cap, rfl⟩ := hs.form
  have HS := tuck hs
  have HV : Hid (∀ w', Below w.heap.size w w' → Calls Tryz.prog 30 #[.agg #[.int .i64 t.kind, .int .i64 t.num, .slice a t.kids.length cap]] w' (BoolPost w' (tr t.Valid))) := fun w' h => validS_any t w' _ ⟨_, rfl, hs.below h⟩
  clear hs
  by_cases hv : t.Valid
  · rw [tr_of hv] at HV
    obtain ⟨v1, v2⟩ := valid_bounds hv
    rw [show maxFreeOf t = t.most 0 from if_pos hv]
    have HT : Hid (∀ w', Below w.heap.size w w' → Calls Tryz.prog 70 #[.agg #[.int .i64 t.kind, .int .i64 t.num, .slice a t.kids.length cap], .int .i64 0] w' (IntPost w' (t.most 0))) := fun w' h => by
      have hok := t.allOk_iff.1 hv.1
      have := most_any' t.kids t.kind t.num 0 w' _ hok.2 (fun _ => root_num' hok.1) (by omega) (by omega) (HS.out.below h)
      rwa [Tm.eta] at this
    generalize t.most 0 = r at *
    clear hv v1 v2
    go_enter Tryz.func39, Tryz.ntmps39
    go_wp2_with fail
    refine (HV.out _ (below1 _ _)).mono ?_
    rintro e w1 ⟨rfl, hb⟩
    have HB := tuck (bAfter (below1 _ _) hb)
    have b0 : w1.cell? ⟨w.heap.size, 0, none⟩ = some (.int .i64 t.kind) := (hb.cell (p := ⟨w.heap.size, 0, none⟩) (by simp)).trans (by go_simp)
    have b1 : w1.cell? ⟨w.heap.size, 1, none⟩ = some (.int .i64 t.num) := (hb.cell (p := ⟨w.heap.size, 1, none⟩) (by simp)).trans (by go_simp)
    have b2 : w1.cell? ⟨w.heap.size, 2, none⟩ = some (.slice a t.kids.length cap) := (hb.cell (p := ⟨w.heap.size, 2, none⟩) (by simp)).trans (by go_simp)
    clear hb
    go_wp2_with fail
    refine (HT.out _ HB.out).mono ?_
    rintro e w2 ⟨rfl, hb⟩
    replace HB := tuck (bAfter HB.out hb)
    clear hb
    go_wp2_with fail
    go_ret
    exact ⟨rfl, HB.out⟩
  · rw [tr_not hv] at HV
    rw [show maxFreeOf t = -1 from if_neg hv]
    clear hv
    go_enter Tryz.func39, Tryz.ntmps39
    go_wp2_with fail
    refine (HV.out _ (below1 _ _)).mono ?_
    rintro e w1 ⟨rfl, hb⟩
    have HB := tuck (bAfter (below1 _ _) hb)
    clear hb
    go_wp2_with fail
    go_ret
    exact ⟨rfl, HB.out⟩

end Go.Proofs.YteeafpnjpcgfaaaGreat
