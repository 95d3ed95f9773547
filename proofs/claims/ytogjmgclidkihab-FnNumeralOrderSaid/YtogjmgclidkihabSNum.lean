/-
  The model's l1Leaf, l1Node, l1Numeral, Numeral.
-/
import Derived.Test.YtogjmgclidkihabNum
import Derived.OwnWalk
namespace Go.Proofs.Ytogjmgclidkihab
open Go.RowKit

theorem bGrown {w w' : World} {v : Value} (h : w.grownBy w' v.ownBlock) {B : Nat} (hB : B ≤ w.heap.size) (hv : ∀ g, v.ownBlock = some g → B ≤ g) {a : World} (ha : Below B a w) : Below B a w' := ha.grown h hB hv

theorem leaf_any (k n : Int) (w : World) : Calls Try.prog 37 #[.int .i64 k, .int .i64 n] w fun e w' => e = .returned (.agg #[.int .i64 k, .int .i64 n, .slice none 0 0]) ∧ Below w.heap.size w w' := by
  go_enter Try.func37, Try.ntmps37
  go_wp2
  refine bodyPost_ret (v := .agg #[.int .i64 k, .int .i64 n, .slice none 0 0]) (by simp [results, Try.results37, go_sem]) rfl ⟨rfl, below1 _ _⟩

theorem info_term' : (Try.prog.info? 26).map (fun i => (i.zero, i.size, i.bytes)) = some (some (.agg #[.int .i64 0, .int .i64 0, .slice none 0 0]), 3, 40) := by kernel_rfl

theorem cellsL_one {r : List (Tm × Value)} {w : World} {B : Nat} (h : ∀ x ∈ r, SlIn w B x.1.kids x.2) : ∀ u ∈ cellsL r, u.oneCell' = true := by
  induction r with
  | nil => intro u hu; simp [cellsL] at hu
  | cons x r ih =>
    obtain ⟨t, s⟩ := x
    intro u hu
    simp only [cellsL, List.mem_cons] at hu
    rcases hu with rfl | rfl | rfl | hu
    · rfl
    · rfl
    · obtain ⟨a, cap, e⟩ := (h _ (List.mem_cons_self ..)).form
      rw [show (u : Value) = .slice a t.kids.length cap from e]; rfl
    · exact ih (fun x hx => h x (List.mem_cons_of_mem _ hx)) u hu

/-- What l1Node leaves: a node over a copy of the row. -/
def NodePost (B : Nat) (k : Int) (l : List Tm) (w : World) (e : Ending) (w' : World) : Prop := ∃ s, e = .returned (.agg #[.int .i64 k, .int .i64 0, s]) ∧ SlIn w' B l s ∧ Below w.heap.size w w'

set_option maxRecDepth 100000 in
theorem node_any (B : Nat) (k : Int) (l : List Tm) (w : World) (v : Value) (hne : l ≠ []) (_hB : B ≤ w.heap.size) (hl : l.length ≤ 100000) (h : SlIn w B l v) : Calls Try.prog 38 #[.int .i64 k, v] w (NodePost B k l w) := by
  obtain ⟨a, cap, b, o, rfl, hl2, hp, hrow⟩ := h
  obtain ⟨r, hr, hcell, hin⟩ := hrow.list
  have hrl : r.length = l.length := by rw [← hr, List.length_map]
  obtain ⟨i0, hi, hz0, hz1, hz2⟩ := info_parts info_term'
  obtain ⟨rfl, _⟩ := hp hne
  have HC := tuck hcell
  have HIN := tuck hin
  have HR := tuck hr
  have HRL := tuck hrl
  have HI := tuck hi
  have HZ0 := tuck hz0
  have HZ1 := tuck hz1
  have HZ2 := tuck hz2
  clear hcell hin hr hrl hrow hp hi hz0 hz1 hz2
  go_enter Try.func38, Try.ntmps38
  have hlt : b < w.heap.size := by
    cases r with
    | nil => exact absurd (by have := HRL.out; simpa using this.symm) hne
    | cons x r => exact World.block_lt_of_cell? w _ (HC.out 0 _ rfl)
  go_wp2_with (at_builtin; refine wpList_append_own _ rfl (.tmp 6) (.tmp 7) 24 rfl (w.heap.size + 1) 26 i0 _ 3 40 Try.underlying24 HI.out HZ0.out HZ1.out HZ2.out rfl (by decide) (.slice (some ⟨w.heap.size + 1, 0, none⟩) 0 0) 0 [] rfl ?own ⟨b, o, none⟩ l.length cap (cellsL r) rfl ?len ?cells ?one ?c63 ?cby ?cbase ?next)
  case own =>
    have := World.ownsRow_made (w.alloc (.cells #[.int .i64 0, .int .i64 0, .slice none 0 0] 26)) #[] 0 (base := w.heap.size + 1) (e := 26) (size := 3) (by simp) (by simp [maxLen]) rfl
    simpa using this
  case len => rw [cellsL_length, HRL.out]
  case cells =>
    intro j u hu
    have := HC.out j u hu
    have ea : (Addr.mk b o none).add j = ⟨b, o + j, none⟩ := by unfold Addr.add; split <;> simp_all
    rw [ea]
    exact ((below2 w _ _).cell (p := ⟨b, o + j, none⟩) hlt).trans this
  case one => exact cellsL_one HIN.out
  case c63 => simp [maxLen]; omega
  case cby => omega
  case cbase => simp
  case next =>
    intro v' w' hown hgrow _
    have hbel : Below w.heap.size w w' := (below2 w _ _).grown hgrow (by simp; omega) (fun g hg => by simp [Value.ownBlock] at hg; omega)
    have hz : w.heap.size < w'.heap.size := by have := hgrow.size; simp at this; omega
    have hc0 : ∀ i, w'.cell? ⟨w.heap.size, i, none⟩ = ((w.alloc (.cells #[.int .i64 0, .int .i64 0, .slice none 0 0] 26)).alloc (.cells #[] 26)).cell? ⟨w.heap.size, i, none⟩ := fun i =>
      World.cell?_of_block (hgrow.block w.heap.size (by simp; omega) (fun e => by simp [Value.ownBlock] at e))
    have hf0 : ∀ i, w'.frozen? ⟨w.heap.size, i, none⟩ = ((w.alloc (.cells #[.int .i64 0, .int .i64 0, .slice none 0 0] 26)).alloc (.cells #[] 26)).frozen? ⟨w.heap.size, i, none⟩ := fun i =>
      World.frozen?_of_block (hgrow.block w.heap.size (by simp; omega) (fun e => by simp [Value.ownBlock] at e))
    have hsl : ∃ g c, v' = .slice (some ⟨g, 0, none⟩) l.length c ∧ w.heap.size < g ∧ ∀ j u, (cellsL r)[j]? = some u → w'.cell? ⟨g, 0 + j, none⟩ = some u := by
      rcases hown.2 with ⟨_, h0⟩ | ⟨g, c, cur, rfl, hg, _⟩
      · exact absurd (List.length_eq_zero_iff.1 h0) hne
      · refine ⟨g, c, rfl, by omega, fun j u hu => ?_⟩
        rw [Nat.zero_add, hown.cellAt j (by have := (List.getElem?_eq_some_iff.1 hu).1; rw [cellsL_length, HRL.out] at this; exact this)]
        exact hu
    obtain ⟨g, c, rfl, hg, hsl⟩ := hsl
    have HSL := tuck hsl
    have HBEL := tuck hbel
    clear hsl hbel hown hgrow
    go_wp2_with fail
    refine bodyPost_ret (v := .agg #[.int .i64 k, .int .i64 0, .slice (some ⟨g, 0, none⟩) l.length c]) (by simp [results, Try.results38, go_sem, hc0]) rfl ?_
    have hb3 := bSet3 HBEL.out (Nat.le_refl w.heap.size) 0 1 2 (.int .i64 k) (.int .i64 0) (.slice (some ⟨g, 0, none⟩) l.length c)
    refine ⟨_, rfl, ⟨some ⟨g, 0, none⟩, c, g, 0, rfl, hl2, fun _ => ⟨rfl, by omega⟩, ?_⟩, hb3⟩
    have hrow : RowAt _ B (r.map (·.1)) g 0 := RowAt.of_list (fun j u hu => ?_) (fun x hx => (HIN.out x hx).below hb3)
    · rw [HR.out] at hrow
      exact hrow
    have hne3 : ∀ i, (⟨w.heap.size, i, none⟩ : Addr) ≠ ⟨g, 0 + j, none⟩ := fun i e => by injection e; omega
    rw [World.cell?_setCell_other _ _ _ _ (hne3 _), World.cell?_setCell_other _ _ _ _ (hne3 _), World.cell?_setCell_other _ _ _ _ (hne3 _)]
    exact HSL.out j u hu

def IsNum (n : Int) (w : World) (e : Ending) (w' : World) : Prop := ∃ v, e = .returned v ∧ TmIn w' w.heap.size (numT n.toNat) v ∧ Below w.heap.size w w'

set_option maxRecDepth 100000 in
theorem lnum_any (m : Nat) (hm : m ≤ 20) (w : World) : Calls Try.prog 24 #[.int .i64 m] w (IsNum m w) := by
  go_enter Try.func24, Try.ntmps24
  go_wp2_with (go_at_call 37; refine (leaf_any _ _ _).mono ?_; rintro e w1 ⟨rfl, hb⟩; obtain ⟨oc, of⟩ := old_cells hb; have hz : w.heap.size < w1.heap.size := (by have := hb.size; simp at this; omega); have HB := tuck hb; clear hb)
  have v0 : VarAt w.heap.size 0 0 (.slice none 0 0) (w1.alloc (.cells #[.int .i64 7, .int .i64 0, .slice none 0 0] 26)) := ((VarAt.new _ _ _ _).below HB.out).below (below1 _ _)
  have v1 : VarAt w1.heap.size 7 0 (.slice none 0 0) (w1.alloc (.cells #[.int .i64 7, .int .i64 0, .slice none 0 0] 26)) := VarAt.new _ _ _ _
  have hb0 : Below w.heap.size w (w1.alloc (.cells #[.int .i64 7, .int .i64 0, .slice none 0 0] 26)) := bAfter (bAfter (below1 _ _) HB.out) (below1 _ _)
  generalize (w1.alloc (.cells #[.int .i64 7, .int .i64 0, .slice none 0 0] 26)) = W0 at *
  have V0 := tuck v0
  have V1 := tuck v1
  have HB0 := tuck hb0
  generalize w1.heap.size = vb at *
  clear v0 v1 hb0 oc of HB
  go_loopw [4] (fun i wr => ∃ (q : Nat) (sa : Option Addr) (sl sc : Nat), q ≤ m ∧ i = .int .i64 q ∧ Below w.heap.size w wr ∧ VarAt w.heap.size 0 0 (.slice none 0 0) wr ∧ VarAt vb (numKind q) 0 (.slice sa sl sc) wr ∧ SlIn wr (vb + 1) (numT q).kids (.slice sa sl sc)) (fun i _ => m - (intOf i).toNat)
  case atStart => exact ⟨0, none, 0, 0, Nat.zero_le _, rfl, HB0.out, V0.out, V1.out, SlIn.nil _ _ _ _⟩
  case round =>
    obtain ⟨q, sa, sl, sc, hq, rfl, hb, hv0, hv1, hown⟩ := hrel
    obtain ⟨z0, a0, a1, a2, af⟩ := hv0.facts
    obtain ⟨z1, b0, b1, b2, bf⟩ := hv1.facts
    have HB := tuck hb
    have HV0 := tuck hv0
    have HV1 := tuck hv1
    have HOWN := tuck hown
    clear hb hv0 hv1 hown
    by_cases hlt : q < m
    · have hlti : ((q : Int) < (m : Int)) := by omega
      have HN : Hid (SlIn (wr.alloc (.cells #[.int .i64 (numKind q), .int .i64 0, .slice sa sl sc] 26)) (vb + 1) [numT q] (.slice (some ⟨wr.heap.size, 0, none⟩) 1 1)) := by
        refine ⟨some ⟨wr.heap.size, 0, none⟩, 1, wr.heap.size, 0, rfl, by simp [maxLen], fun _ => ⟨rfl, z1⟩, ?_⟩
        have h := RowAt.of_list (w := wr.alloc (.cells #[.int .i64 (numKind q), .int .i64 0, .slice sa sl sc] 26)) (B := vb + 1) (r := [(numT q, .slice sa sl sc)]) (b := wr.heap.size) (o := 0) (fun j u hu => by
          rw [Nat.zero_add, World.cell?_alloc_new, ← hu]
          simp [cellsL, numT_kind, numT_num]) (fun x hx => by
          simp only [List.mem_singleton] at hx; subst hx
          exact HOWN.out.below (below1 _ _))
        simpa using h
      go_wp2_with (go_at_call 38; refine (node_any (vb + 1) 8 [numT q] _ _ (by simp) (by simp; omega) (by simp) HN.out).mono ?_; rintro e w2 ⟨s2, rfl, hs2, hb2⟩; obtain ⟨sa2, sc2, rfl⟩ := hs2.form; obtain ⟨oc, of⟩ := old_cells hb2; have hz2 : wr.heap.size < w2.heap.size := (by have := hb2.size; simp at this; omega); have HS2 := tuck hs2; have HB2 := tuck hb2; clear hs2 hb2)
      go_roundw
      case rel =>
        refine ⟨q + 1, sa2, 1, sc2, by omega, by go_num, bSet3 (bAfter HB.out (bAfter (below1 _ _) HB2.out)) (by omega) _ _ _ _ _ _, ?_, ?_, ?_⟩
        · exact ((HV0.out.below (below1 _ _)).below HB2.out).far3 (by omega) _ _ _ _ _ _
        · exact ((HV1.out.below (below1 _ _)).below HB2.out).set
        · exact ((HS2.out.setCell (p := ⟨vb, 0, none⟩) (Nat.lt_succ_self _) _).setCell (p := ⟨vb, 1, none⟩) (Nat.lt_succ_self _) _).setCell (p := ⟨vb, 2, none⟩) (Nat.lt_succ_self _) _
      case measure => simp [intOf]; omega
    · have hge2 : ¬ ((q : Int) < (m : Int)) := by omega
      have e : q = m := by omega
      subst e
      go_wp2
      refine bodyPost_ret (v := .agg #[.int .i64 (numKind q), .int .i64 0, .slice sa sl sc]) (by simp [results, Try.results24, go_sem, *]) rfl ⟨_, rfl, ⟨_, by rw [Int.toNat_natCast, numT_kind, numT_num], ?_⟩, bSet3 HB.out (Nat.le_refl _) _ _ _ _ _ _⟩
      rw [Int.toNat_natCast]
      exact (((HOWN.out.setCell (p := ⟨w.heap.size, 0, none⟩) (show w.heap.size < vb + 1 by omega) _).setCell (p := ⟨w.heap.size, 1, none⟩) (show w.heap.size < vb + 1 by omega) _).setCell (p := ⟨w.heap.size, 2, none⟩) (show w.heap.size < vb + 1 by omega) _).mono (show w.heap.size ≤ vb + 1 by omega)

/-- What the model's Numeral leaves. -/
def NumPostS (n : Int) (w : World) (e : Ending) (w' : World) : Prop := Below w.heap.size w w' ∧
  ∃ v, e = .returned (.tuple #[v, .bool (decide (0 ≤ n ∧ n ≤ 20))]) ∧ TmIn w' 0 (if 0 ≤ n ∧ n ≤ 20 then numT n.toNat else .mk 0 0 []) v

theorem numS_any (n : Int) (w : World) : Calls Try.prog 9 #[.int .i64 n] w (NumPostS n w) := by
  by_cases hn : 0 ≤ n ∧ n ≤ 20
  rotate_left
  · have HP : Hid (∀ w', Below w.heap.size w w' → NumPostS n w (.returned (.tuple #[.agg #[.int .i64 0, .int .i64 0, .slice none 0 0], .bool false])) w') := fun w' hb =>
      ⟨hb, _, by rw [show decide (0 ≤ n ∧ n ≤ 20) = false by simpa using hn], by rw [if_neg hn]; exact ⟨_, rfl, SlIn.nil _ _ _ _⟩⟩
    generalize NumPostS n w = post at *
    by_cases h0 : n < 0
    · have g0 : decide (n < 0) = true := by simpa using h0
      go_enter Try.func9, Try.ntmps9
      go_wp2
      refine bodyPost_ret (v := .tuple #[.agg #[.int .i64 0, .int .i64 0, .slice none 0 0], .bool false]) (by simp [results, Try.results9, go_sem]) rfl (HP.out _ ?_)
      exact below1 _ _
    · have g0 : decide (n < 0) = false := by simpa using h0
      have g1 : 20 < n := by omega
      go_enter Try.func9, Try.ntmps9
      go_wp2
      refine bodyPost_ret (v := .tuple #[.agg #[.int .i64 0, .int .i64 0, .slice none 0 0], .bool false]) (by simp [results, Try.results9, go_sem]) rfl (HP.out _ ?_)
      exact below1 _ _
  obtain ⟨m, rfl⟩ : ∃ m : Nat, n = m := ⟨n.toNat, by omega⟩
  have hm : m ≤ 20 := by omega
  have HP : Hid (∀ w' v, Below w.heap.size w w' → TmIn w' 0 (numT m) v → NumPostS m w (.returned (.tuple #[v, .bool true])) w') := fun w' v hb h1 =>
    ⟨hb, _, by rw [show decide ((0 : Int) ≤ m ∧ (m : Int) ≤ 20) = true by simpa using hn], by rw [if_pos hn, Int.toNat_natCast]; exact h1⟩
  generalize NumPostS (m : Int) w = post at *
  clear hn
  have hm1 : ¬ ((m : Int) < 0) := by omega
  have hm2 : ¬ (20 < (m : Int)) := by omega
  go_enter Try.func9, Try.ntmps9
  go_wp2_with (go_at_call 24; refine (lnum_any m hm _).mono ?_; rintro e w1 ⟨v, rfl, ⟨s, rfl, hin⟩, hb⟩; obtain ⟨sa, sc, rfl⟩ := hin.form; rw [Int.toNat_natCast] at *; obtain ⟨oc, of⟩ := old_cells hb; have hz : w.heap.size < w1.heap.size := (by have := hb.size; simp at this; omega); have HB := tuck hb; have HIN := tuck hin; clear hb hin)
  have hb3 := bSet3 (bAfter (below1 _ _) HB.out) (Nat.le_refl w.heap.size) 0 1 2 (.int .i64 (numT m).kind) (.int .i64 (numT m).num) (.slice sa (numT m).kids.length sc)
  have hs3 : SlIn w1 (w.heap.size + 1) (numT m).kids (.slice sa (numT m).kids.length sc) := HIN.out.mono (by simp)
  refine bodyPost_ret (v := .tuple #[.agg #[.int .i64 (numT m).kind, .int .i64 (numT m).num, .slice sa (numT m).kids.length sc], .bool true]) (by simp [results, Try.results9, go_sem, *]) rfl (HP.out _ _ hb3 ⟨_, rfl, ?_⟩)
  exact (((hs3.setCell (p := ⟨w.heap.size, 0, none⟩) (Nat.lt_succ_self _) _).setCell (p := ⟨w.heap.size, 1, none⟩) (Nat.lt_succ_self _) _).setCell (p := ⟨w.heap.size, 2, none⟩) (Nat.lt_succ_self _) _).mono (Nat.zero_le _)

end Go.Proofs.Ytogjmgclidkihab
