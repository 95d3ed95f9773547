/-
  Definitions: their sizes (the laws' szDef, szDefS).
-/
import Derived.Test.YteeafpnjpcgfaaaGreatDfA
import Derived.Test.YteeafpnjpcgfaaaGreatTo
import Derived.Test.YteeafpnjpcgfaaaGreatNum
namespace Go.Proofs.YteeafpnjpcgfaaaGreat
open Go.RowKit

/-- A variable that holds a definition. -/
def DBox (T : TypeId) (g : Nat) (k n : Int) (s : Value) (k' n' : Int) (s' : Value) (w : World) : Prop := w.heap[g]? = some (.cells #[.int .i64 k, .int .i64 n, s, .int .i64 k', .int .i64 n', s'] T (0, 0))
theorem DBox.facts {T : TypeId} {g : Nat} {k n k' n' : Int} {s s' : Value} {w : World} (h : DBox T g k n s k' n' s' w) : g < w.heap.size ∧ w.cell? ⟨g, 0, none⟩ = some (.int .i64 k) ∧ w.cell? ⟨g, 1, none⟩ = some (.int .i64 n) ∧ w.cell? ⟨g, 2, none⟩ = some s ∧ w.cell? ⟨g, 3, none⟩ = some (.int .i64 k') ∧ w.cell? ⟨g, 4, none⟩ = some (.int .i64 n') ∧ w.cell? ⟨g, 5, none⟩ = some s' ∧ ∀ i, w.frozen? ⟨g, i, none⟩ = false := by
  obtain ⟨h1, h2, h3⟩ := block_of_cells h
  exact ⟨h1, h2 0, h2 1, h2 2, h2 3, h2 4, h2 5, h3⟩
theorem DBox.below {T : TypeId} {g : Nat} {k n k' n' : Int} {s s' : Value} {w w' : World} (h : DBox T g k n s k' n' s' w) (hb : Below w.heap.size w w') : DBox T g k n s k' n' s' w' := (hb.block g h.facts.1).trans h
theorem DBox.new (T : TypeId) (w : World) (k n : Int) (s : Value) (k' n' : Int) (s' : Value) : DBox T w.heap.size k n s k' n' s' (w.alloc (.cells #[.int .i64 k, .int .i64 n, s, .int .i64 k', .int .i64 n', s'] T)) := heap_new _ _

set_option maxRecDepth 100000 in
theorem szDef_any (t u : Tm) (left : Int) (w : World) (s s' : Value) (h0 : 0 ≤ left) (h1 : left ≤ 1048576) (hs : SlIn w 0 t.kids s) (hu : SlIn w 0 u.kids s') : Calls Tryz.prog 46 #[.agg #[.int .i64 t.kind, .int .i64 t.num, s, .int .i64 u.kind, .int .i64 u.num, s'], .int .i64 left] w (SzPost w (if ((sizes t.kids + sizes u.kids : Nat) : Int) ≤ left then left - (sizes t.kids + sizes u.kids : Nat) else -1)) := by
  obtain ⟨a, c, rfl⟩ := hs.form
  obtain ⟨a', c', rfl⟩ := hu.form
  have hb0 := below1 w (.cells #[.int .i64 t.kind, .int .i64 t.num, .slice a t.kids.length c, .int .i64 u.kind, .int .i64 u.num, .slice a' u.kids.length c'] 78)
  have HD := tuck (DBox.new 78 w t.kind t.num (.slice a t.kids.length c) u.kind u.num (.slice a' u.kids.length c'))
  have HS := tuck (hs.below hb0)
  have HU := tuck (hu.below hb0)
  have HB := tuck hb0
  clear hs hu hb0
  have HST : Hid (∀ W, SlIn W 0 t.kids (.slice a t.kids.length c) → Calls Tryz.prog 8 #[.agg #[.int .i64 t.kind, .int .i64 t.num, .slice a t.kids.length c], .int .i64 left] W (SzPost W (szV t.kids left))) := tuck fun W h => szT_any t left W _ h0 h1 ⟨_, rfl, h⟩
  by_cases hl : (sizes t.kids : Int) ≤ left
  rotate_left
  · rw [szV_not (by omega)] at HST
    rw [if_neg (by omega)]
    go_enter Tryz.func46, Tryz.ntmps46
    go_wp2_with fail
    refine (HST.out _ HS.out).mono ?_
    rintro e w1 ⟨rfl, hb1⟩
    replace HB := tuck (bAfter HB.out hb1)
    clear hb1
    go_wp2_with fail
    go_ret
    exact ⟨rfl, HB.out⟩
  rw [szV_of hl] at HST
  obtain ⟨left1, hl1⟩ : ∃ x, x = left - (sizes t.kids : Int) := ⟨_, rfl⟩
  rw [← hl1] at HST
  have hl1a : ¬ left1 < 0 := by omega
  have HSU : Hid (∀ W, SlIn W 0 u.kids (.slice a' u.kids.length c') → Calls Tryz.prog 8 #[.agg #[.int .i64 u.kind, .int .i64 u.num, .slice a' u.kids.length c'], .int .i64 left1] W (SzPost W (szV u.kids left1))) := tuck fun W h => szT_any u left1 W _ (by omega) (by omega) ⟨_, rfl, h⟩
  by_cases hl2 : (sizes u.kids : Int) ≤ left1
  · rw [szV_of hl2] at HSU
    obtain ⟨left2, hl3⟩ : ∃ x, x = left1 - (sizes u.kids : Int) := ⟨_, rfl⟩
    rw [← hl3] at HSU
    rw [if_pos (by omega), show left - ((sizes t.kids + sizes u.kids : Nat) : Int) = left2 by omega]
    have hl2a : ¬ left2 < 0 := by omega
    clear hl hl1 hl2 hl3
    go_enter Tryz.func46, Tryz.ntmps46
    go_wp2_with fail
    refine (HST.out _ HS.out).mono ?_
    rintro e w1 ⟨rfl, hb1⟩
    replace HB := tuck (bAfter HB.out hb1)
    replace HU := tuck (HU.out.below hb1)
    obtain ⟨z, c0, c1, c2, c3, c4, c5, cf⟩ := (HD.out.below hb1).facts
    clear hb1
    go_wp2_with fail
    refine (HSU.out _ HU.out).mono ?_
    rintro e w2 ⟨rfl, hb1⟩
    replace HB := tuck (bAfter HB.out hb1)
    clear hb1 z c0 c1 c2 c3 c4 c5 cf
    go_wp2_with fail
    go_ret
    exact ⟨rfl, HB.out⟩
  · rw [szV_not (by omega)] at HSU
    rw [if_neg (by omega)]
    clear hl hl1 hl2
    go_enter Tryz.func46, Tryz.ntmps46
    go_wp2_with fail
    refine (HST.out _ HS.out).mono ?_
    rintro e w1 ⟨rfl, hb1⟩
    replace HB := tuck (bAfter HB.out hb1)
    replace HU := tuck (HU.out.below hb1)
    obtain ⟨z, c0, c1, c2, c3, c4, c5, cf⟩ := (HD.out.below hb1).facts
    clear hb1
    go_wp2_with fail
    refine (HSU.out _ HU.out).mono ?_
    rintro e w2 ⟨rfl, hb1⟩
    replace HB := tuck (bAfter HB.out hb1)
    clear hb1 z c0 c1 c2 c3 c4 c5 cf
    go_wp2_with fail
    go_ret
    exact ⟨rfl, HB.out⟩

theorem dsizes_take_rest : ∀ (l : List (Tm × Tm)) (k : Nat), k ≤ l.length → dsizes (l.take k) + (l.length - k) ≤ dsizes l
  | [], k, h => by simp [dsizes]
  | (t, u) :: l, 0, h => by
    have := dsizes_len ((t, u) :: l)
    simp [dsizes] at *
    omega
  | (t, u) :: l, k + 1, h => by
    have := dsizes_take_rest l k (by simpa using h)
    simp only [List.take_succ_cons, dsizes, List.length_cons]
    omega

set_option maxRecDepth 100000 in
theorem szDefS_any (l : List (Tm × Tm)) (left : Int) (w : World) (v : Value) (h0 : 0 ≤ left) (h1 : left ≤ 1048576) (h : DfIn w 0 l v) : Calls Tryz.prog 18 #[v, .int .i64 left] w (SzPost w (if (dsizes l : Int) ≤ left then left - dsizes l else -1)) := by
  obtain ⟨a, cap, b, o, rfl, hlm, hp, hc⟩ := h
  have HP := tuck hp
  have HC := tuck hc
  have hl0 := dsizes_len l
  clear hp hc
  unfold maxLen at hlm
  have HF : Hid ((dsizes l : Int) ≤ left → ∀ W x, Below w.heap.size w W → x = left - (dsizes l : Int) → SzPost w (if (dsizes l : Int) ≤ left then left - dsizes l else -1) (.returned (.int .i64 x)) W) := tuck fun h W x hb hx => by rw [if_pos h, hx]; exact ⟨rfl, hb⟩
  have HG : Hid (¬ (dsizes l : Int) ≤ left → ∀ W, Below w.heap.size w W → SzPost w (if (dsizes l : Int) ≤ left then left - dsizes l else -1) (.returned (.int .i64 (-1))) W) := tuck fun h W hb => by rw [if_neg h]; exact ⟨rfl, hb⟩
  generalize SzPost w (if (dsizes l : Int) ≤ left then left - dsizes l else -1) = post at *
  by_cases hln : (l.length : Int) ≤ left
  rotate_left
  · have hn : left - (l.length : Int) < 0 := by omega
    go_enter Tryz.func18, Tryz.ntmps18
    go_wp2
    exact HG.out (by omega) _ (Below.refl _ _)
  have hn : ¬ (left - (l.length : Int) < 0) := by omega
  obtain ⟨x0, hx0⟩ : ∃ x, x = left - (l.length : Int) := ⟨_, rfl⟩
  go_enter Tryz.func18, Tryz.ntmps18
  go_wp2
  go_loopw [5, 1] (fun i xx wr => ∃ (q : Nat) (x : Int), q ≤ l.length ∧ i = .int .i64 q ∧ xx = .int .i64 x ∧ 0 ≤ x ∧ x = left - (l.length : Int) - ((dsizes (l.take q) : Int) - q) ∧ Below w.heap.size w wr) (fun i _ _ => l.length - (intOf i).toNat)
  case atStart => exact ⟨0, _, Nat.zero_le _, rfl, rfl, by omega, by simp [dsizes], Below.refl _ _⟩
  case round =>
    obtain ⟨q, x, hq, rfl, rfl, hx1, hx, hb⟩ := hrel
    have htl := dsizes_take_le l q
    by_cases hlt : q < l.length
    · have hlti : ((q : Int) < (l.length : Int)) := by omega
      have hqi : (0 : Int) ≤ (q : Int) := by omega
      obtain ⟨rfl, -, hbw⟩ := HP.out (by omega)
      obtain ⟨s, u, k0, k1, k2, k3, k4, k5, k6, k7⟩ := HC.out q hlt
      have hcc : ∀ j, wr.cell? ⟨b, j, none⟩ = w.cell? ⟨b, j, none⟩ := fun j => hb.cell (p := ⟨b, j, none⟩) hbw
      rw [← hcc] at k0 k1 k2 k3 k4 k5
      have hts := dsizes_take_succ l q hlt
      have htr := dsizes_take_rest l (q + 1) (by omega)
      have HB := tuck hb
      have htq : q ≤ dsizes (l.take q) := by have := dsizes_len (l.take q); rw [List.length_take] at this; omega
      have HCL := tuck (szDef_any l[q].1 l[q].2 x wr s u hx1 (by omega) (k6.below hb) (k7.below hb))
      clear hb k6 k7 hcc
      generalize l[q] = y at *
      obtain ⟨t1, t2⟩ := y
      simp only at hts HCL k0 k1 k3 k4
      by_cases hfit : ((sizes t1.kids + sizes t2.kids : Nat) : Int) ≤ x
      · rw [if_pos hfit] at HCL
        obtain ⟨x2, hx2⟩ : ∃ x2, x2 = x - ((sizes t1.kids + sizes t2.kids : Nat) : Int) := ⟨_, rfl⟩
        rw [← hx2] at HCL
        have hx2n : ¬ x2 < 0 := by omega
        have HX2 := tuck (show 0 ≤ x2 ∧ x2 = left - (l.length : Int) - ((dsizes (l.take (q + 1)) : Int) - (q + 1 : Nat)) by omega)
        clear hx2 hfit hts htr hx htq htl
        go_wp2_with fail
        refine HCL.out.mono ?_
        rintro e w2 ⟨rfl, hb2⟩
        have HB2 := tuck (bAfter HB.out hb2)
        clear hb2 k0 k1 k2 k3 k4 k5
        go_wp2_with fail
        go_roundw
        case rel => exact ⟨q + 1, x2, by omega, by go_num, rfl, HX2.out.1, HX2.out.2, HB2.out⟩
        case measure => simp [intOf]; omega
      · rw [if_neg hfit] at HCL
        have HNO := tuck (show ¬ (dsizes l : Int) ≤ left by omega)
        clear hfit hts htr hx htq htl
        go_wp2_with fail
        refine HCL.out.mono ?_
        rintro e w2 ⟨rfl, hb2⟩
        have HB2 := tuck (bAfter HB.out hb2)
        clear hb2 k0 k1 k2 k3 k4 k5
        go_wp2_with fail
        exact HG.out HNO.out _ HB2.out
    · have hge2 : ¬ ((q : Int) < (l.length : Int)) := by omega
      have e : q = l.length := by omega
      have HB := tuck hb
      have hd : dsizes (l.take q) = dsizes l := by rw [e, List.take_length]
      have HX := tuck (show (dsizes l : Int) ≤ left ∧ x = left - (dsizes l : Int) by rw [hd] at hx; omega)
      clear hb hx hd htl
      go_wp2
      exact HF.out HX.out.1 _ _ HB.out HX.out.2

end Go.Proofs.YteeafpnjpcgfaaaGreat
