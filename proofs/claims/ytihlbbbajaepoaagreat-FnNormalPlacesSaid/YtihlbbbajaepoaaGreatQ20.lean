/-
  PlT, Same.
-/
import Derived.Test.YtihlbbbajaepoaaGreatQ04
import Derived.Test.YtihlbbbajaepoaaGreatQ09
import Derived.Test.YtihlbbbajaepoaaGreatQ13
import Derived.Test.YtihlbbbajaepoaaGreatQ14
import Derived.Test.YtihlbbbajaepoaaGreatQ17
import Derived.Test.YtihlbbbajaepoaaGreatQ19
import Derived.Carry
import Derived.Lib.AppendZeros
namespace Go.Proofs.YtihlbbbajaepoaaGreat
open Go.RowKit
noncomputable def rootSame (t u : Tm) : Bool := tr (t.kind = u.kind ∧ t.num = u.num ∧ t.kids.length = u.kids.length)
theorem sameRoot_any (t u : Tm) (a a' : Option Addr) (c c' : Nat) (w : World) : Calls Tryz.prog 110 #[.agg #[.int .i64 t.kind, .int .i64 t.num, .slice a t.kids.length c], .agg #[.int .i64 u.kind, .int .i64 u.num, .slice a' u.kids.length c']] w (BoolPost w (rootSame t u)) := by
 by_cases h1 : t.kind = u.kind
 rotate_left
 ·rw [show rootSame t u = false from tr_not fun h => h1 h.1]
  have g1 : (t.kind == u.kind) = false := by simpa using h1
  go_enter Tryz.func110, Tryz.ntmps110
  go_wp2
  go_ret
  exact ⟨rfl, below2 _ _ _⟩
 have g1 : (t.kind == u.kind) = true := by simpa using h1
 by_cases h2 : t.num = u.num
 rotate_left
 ·rw [show rootSame t u = false from tr_not fun h => h2 h.2.1]
  have g2 : (t.num == u.num) = false := by simpa using h2
  clear h1 h2
  go_enter Tryz.func110, Tryz.ntmps110
  go_wp2
  go_ret
  exact ⟨rfl, below2 _ _ _⟩
 have g2 : (t.num == u.num) = true := by simpa using h2
 have HR : Hid (rootSame t u = ((t.kids.length : Int) == (u.kids.length : Int))) := by
  show _ = _
  rw [Bool.eq_iff_iff, rootSame, tr_iff, beq_iff_eq]
  exact ⟨fun h => by omega, fun h => ⟨h1, h2, by omega⟩⟩
 generalize rootSame t u = r at *
 clear h1 h2
 go_enter Tryz.func110, Tryz.ntmps110
 go_wp2
 go_ret
 exact ⟨ret_bool HR.out.symm, below2 _ _ _⟩
theorem same_root {t u : Tm} : same t u = (rootSame t u && same t.kids u.kids) := by
 rw [same_mk, Bool.eq_iff_iff]
 simp only [Bool.and_eq_true, same_iff, rootSame, tr_iff]
 constructor
 ·rintro ⟨⟨h1, h2⟩, h3⟩; exact ⟨⟨h1, h2, by rw [h3]⟩, h3⟩
 ·rintro ⟨⟨h1, h2, _⟩, h3⟩; exact ⟨⟨h1, h2⟩, h3⟩
set_option maxRecDepth 100000 in
theorem sameTree_any : ∀ (l : List Tm) (k n : Int) (u : Tm) (w : World) (s v2 : Value), SlIn w 0 l s → TmIn w 0 u v2 →
  Calls Tryz.prog 64 #[.agg #[.int .i64 k, .int .i64 n, s], v2] w (BoolPost w (same (.mk k n l) u)) := by
 intro l
 induction l using Tm.ind with
 | h l ih =>
 intro k n u w v1 v2 h1 h2
 obtain ⟨s2, rfl, h2⟩ := h2
 obtain ⟨a, cap, b, o, rfl, hl, hp, hc⟩ := h1.open
 obtain ⟨a', cap', b', o', rfl, hl', hp', hc'⟩ := h2.open
 clear h1 h2
 have HI := tuck ih
 have HP := tuck hp
 have HP' := tuck hp'
 have HC := tuck hc
 have HC' := tuck hc'
 have HR := tuck (sameRoot_any (.mk k n l) u a a' cap cap')
 clear ih hp hp' hc hc'
 unfold maxLen at hl hl'
 rw [same_root]
 change Hid (∀ w, Calls Tryz.prog 110 #[.agg #[.int .i64 k, .int .i64 n, .slice a l.length cap], _] w _) at HR
 change Calls _ _ _ _ (BoolPost w (rootSame _ u && same l u.kids))
 by_cases hr : rootSame (.mk k n l) u = true
 rotate_left
 ·have hr' : rootSame (.mk k n l) u = false := by simpa using hr
  rw [hr'] at HR ⊢
  clear hr hr'
  go_enter Tryz.func64, Tryz.ntmps64
  go_wp2_with (go_at_call 110; refine (HR.out _).mono ?_; rintro e w1 ⟨rfl, hb1⟩; have HB1 := tuck hb1; clear hb1)
  go_ret
  exact ⟨rfl, bAfter (below2 _ _ _) HB1.out⟩
 rw [hr] at HR ⊢
 have hlen : l.length = u.kids.length := (tr_iff.1 hr).2.2
 clear hr
 rw [Bool.true_and]
 have HL := tuck hlen
 clear hlen
 generalize u.kids = m at *
 generalize u.kind = uk at *
 generalize u.num = un at *
 have hge : m.length ≤ l.length := Nat.le_of_eq HL.out.symm
 have hle : l.length ≤ m.length := Nat.le_of_eq HL.out
 go_enter Tryz.func64, Tryz.ntmps64
 go_wp2_with (go_at_call 110; refine (HR.out _).mono ?_; rintro e w1 ⟨rfl, hb1⟩; obtain ⟨oc, of⟩ := old_cells hb1; have hz1 : w.heap.size + 1 < w1.heap.size := (by have := hb1.size; simp at this; omega); have HB1 := tuck hb1; clear hb1)
 have hx : w1.cell? ⟨w.heap.size, 2, none⟩ = some (.slice a l.length cap) := by rw [oc _ _ (by simp; omega)]; go_simp
 have hy : w1.cell? ⟨w.heap.size + 1, 2, none⟩ = some (.slice a' m.length cap') := by rw [oc _ _ (by simp)]; go_simp
 have HBX := tuck hx
 have HBY := tuck hy
 have HB0 := tuck (bAfter (below2 _ _ _) HB1.out)
 clear oc of hx hy HB1 HR
 go_loopw [13] (fun i wr => ∃ q : Nat, q ≤ l.length ∧ i = .int .i64 q ∧ l.take q = m.take q ∧ Below w1.heap.size w1 wr) (fun i _ => l.length - (intOf i).toNat)
 case atStart => exact ⟨0, Nat.zero_le _, rfl, by simp, Below.refl _ _⟩
 case round =>
  obtain ⟨q, hq, rfl, ht, hb⟩ := hrel
  have hx : wr.cell? ⟨w.heap.size, 2, none⟩ = some (.slice a l.length cap) := (hb.cell (p := ⟨w.heap.size, 2, none⟩) (by show w.heap.size < _; omega)).trans HBX.out
  have hy : wr.cell? ⟨w.heap.size + 1, 2, none⟩ = some (.slice a' m.length cap') := (hb.cell (p := ⟨w.heap.size + 1, 2, none⟩) hz1).trans HBY.out
  by_cases hlt : q < l.length
  ·have hltm : q < m.length := by omega
   have hlti : ((q : Int) < (l.length : Int)) := by omega
   have hltj : ((q : Int) < (m.length : Int)) := by omega
   obtain ⟨rfl, _, hbw⟩ := HP.out (by intro e; rw [e] at hlt; simp at hlt)
   obtain ⟨rfl, _, hbw'⟩ := HP'.out (by intro e; rw [e] at hltm; simp at hltm)
   obtain ⟨s, c0, c1, c2, hs⟩ := HC.out q hlt
   obtain ⟨s', d0, d1, d2, hs'⟩ := HC'.out q hltm
   have hbb := bAfter HB0.out hb
   replace c0 := (hbb.cell (p := ⟨b, o + q * 3, none⟩) hbw).trans c0
   replace c1 := (hbb.cell (p := ⟨b, o + q * 3 + 1, none⟩) hbw).trans c1
   replace c2 := (hbb.cell (p := ⟨b, o + q * 3 + 2, none⟩) hbw).trans c2
   replace d0 := (hbb.cell (p := ⟨b', o' + q * 3, none⟩) hbw').trans d0
   replace d1 := (hbb.cell (p := ⟨b', o' + q * 3 + 1, none⟩) hbw').trans d1
   replace d2 := (hbb.cell (p := ⟨b', o' + q * 3 + 2, none⟩) hbw').trans d2
   have HB := tuck hb
   have HBB := tuck hbb
   have HT := tuck ht
   have HS := tuck hs
   have HS' := tuck hs'
   have HI' := tuck (HI.out q hlt)
   clear hb hbb ht hs hs' HI
   generalize hx1 : l[q] = x at *
   generalize hy1 : m[q] = y at *
   have HX := tuck hx1
   have HY := tuck hy1
   clear hx1 hy1
   go_wp2_with fail
   go_still_tail 10, (by kernel_rfl)
   change wpList _ _ _ _ _ wr.drew
   go_wp2_with (go_at_call 64; refine (HI'.out x.kind x.num y _ _ _ (HS.out.below (HBB.out.drew)) ⟨s', rfl, HS'.out.below (HBB.out.drew)⟩).mono ?_; rintro e w' ⟨rfl, hb'⟩)
   ·go_ret
    have h3 : same (.mk x.kind x.num x.kids) y = false := by simpa using ‹(!same (.mk x.kind x.num x.kids) y) = true›
    rw [Tm.eta, same_false, ← HX.out, ← HY.out] at h3
    exact ⟨ret_bool (same_false.2 fun e => h3 (by simp [e])).symm, HBB.out.drew.trans (hb'.mono HBB.out.size)⟩
   ·have h3 : same (.mk x.kind x.num x.kids) y = true := by simpa using ‹(!same (.mk x.kind x.num x.kids) y) = false›
    rw [Tm.eta, same_iff, ← HX.out, ← HY.out] at h3
    go_roundw
    case rel =>
     refine ⟨q + 1, by omega, by go_num, ?_, HB.out.drew.trans (hb'.mono HB.out.size)⟩
     rw [List.take_succ_eq_append_getElem hlt, List.take_succ_eq_append_getElem hltm, HT.out, h3]
    case measure => simp [intOf]; omega
  ·have hge2 : ¬ ((q : Int) < (l.length : Int)) := by omega
   have HBB := tuck (bAfter HB0.out hb)
   have HT := tuck ht
   clear hb ht
   go_wp2
   go_ret
   have hk : q = l.length := by omega
   have h3 := HT.out
   rw [hk] at h3
   exact ⟨ret_bool (same_iff.2 (take_all HL.out h3)).symm, HBB.out⟩
def sliceLen : Value → Nat | .slice _ n _ => n | _ => 0
set_option maxRecDepth 100000 in
theorem sameGraph_leaf (t u : Tm) (a a' : Option Addr) (c c' : Nat) (w : World) (h0 : t.kids.length = 0) : Calls Tryz.prog 65 #[.agg #[.int .i64 t.kind, .int .i64 t.num, .slice a t.kids.length c], .agg #[.int .i64 u.kind, .int .i64 u.num, .slice a' u.kids.length c']] w (BoolPost w (rootSame t u)) := by
 have HR := tuck (sameRoot_any t u a a' c c')
 have HZ := tuck h0
 have hz : ((t.kids.length : Int) == 0) = true := by simp [h0]
 clear h0
 generalize rootSame t u = r at *
 generalize t.kind = k1 at *
 generalize t.num = n1 at *
 generalize u.kind = k2 at *
 generalize u.num = n2 at *
 generalize t.kids.length = l1 at *
 generalize u.kids.length = l2 at *
 have hmm := @run_makeMap Tryz.prog
 go_enter Tryz.func65, Tryz.ntmps65
 go_wp2_with fail
 have hb0 : Below w.heap.size w ((((w.alloc (.cells #[.int .i64 k1, .int .i64 n1, .slice a l1 c] 34)).alloc (.cells #[.int .i64 k2, .int .i64 n2, .slice a' l2 c'] 34)).alloc (.map #[] 0)).alloc (.cells #[.int .i64 k1, .int .i64 n1, .slice a l1 c, .int .i64 k2, .int .i64 n2, .slice a' l2 c'] 149)) := (((below1 w _).alloc (by simp) _).alloc (by simp; omega) _).alloc (by simp; omega) _
 have q0 : ((((w.alloc (.cells #[.int .i64 k1, .int .i64 n1, .slice a l1 c] 34)).alloc (.cells #[.int .i64 k2, .int .i64 n2, .slice a' l2 c'] 34)).alloc (.map #[] 0)).alloc (.cells #[.int .i64 k1, .int .i64 n1, .slice a l1 c, .int .i64 k2, .int .i64 n2, .slice a' l2 c'] 149)).cell? ⟨w.heap.size + 1 + 1 + 1, 0, none⟩ = some (.int .i64 k1) := by go_simp
 have q1 : ((((w.alloc (.cells #[.int .i64 k1, .int .i64 n1, .slice a l1 c] 34)).alloc (.cells #[.int .i64 k2, .int .i64 n2, .slice a' l2 c'] 34)).alloc (.map #[] 0)).alloc (.cells #[.int .i64 k1, .int .i64 n1, .slice a l1 c, .int .i64 k2, .int .i64 n2, .slice a' l2 c'] 149)).cell? ⟨w.heap.size + 1 + 1 + 1, 1, none⟩ = some (.int .i64 n1) := by go_simp
 have q2 : ((((w.alloc (.cells #[.int .i64 k1, .int .i64 n1, .slice a l1 c] 34)).alloc (.cells #[.int .i64 k2, .int .i64 n2, .slice a' l2 c'] 34)).alloc (.map #[] 0)).alloc (.cells #[.int .i64 k1, .int .i64 n1, .slice a l1 c, .int .i64 k2, .int .i64 n2, .slice a' l2 c'] 149)).cell? ⟨w.heap.size + 1 + 1 + 1, 2, none⟩ = some (.slice a l1 c) := by go_simp
 have q3 : ((((w.alloc (.cells #[.int .i64 k1, .int .i64 n1, .slice a l1 c] 34)).alloc (.cells #[.int .i64 k2, .int .i64 n2, .slice a' l2 c'] 34)).alloc (.map #[] 0)).alloc (.cells #[.int .i64 k1, .int .i64 n1, .slice a l1 c, .int .i64 k2, .int .i64 n2, .slice a' l2 c'] 149)).cell? ⟨w.heap.size + 1 + 1 + 1, 3, none⟩ = some (.int .i64 k2) := by go_simp
 have q4 : ((((w.alloc (.cells #[.int .i64 k1, .int .i64 n1, .slice a l1 c] 34)).alloc (.cells #[.int .i64 k2, .int .i64 n2, .slice a' l2 c'] 34)).alloc (.map #[] 0)).alloc (.cells #[.int .i64 k1, .int .i64 n1, .slice a l1 c, .int .i64 k2, .int .i64 n2, .slice a' l2 c'] 149)).cell? ⟨w.heap.size + 1 + 1 + 1, 4, none⟩ = some (.int .i64 n2) := by go_simp
 have q5 : ((((w.alloc (.cells #[.int .i64 k1, .int .i64 n1, .slice a l1 c] 34)).alloc (.cells #[.int .i64 k2, .int .i64 n2, .slice a' l2 c'] 34)).alloc (.map #[] 0)).alloc (.cells #[.int .i64 k1, .int .i64 n1, .slice a l1 c, .int .i64 k2, .int .i64 n2, .slice a' l2 c'] 149)).cell? ⟨w.heap.size + 1 + 1 + 1, 5, none⟩ = some (.slice a' l2 c') := by go_simp
 generalize ((((w.alloc (.cells #[.int .i64 k1, .int .i64 n1, .slice a l1 c] 34)).alloc (.cells #[.int .i64 k2, .int .i64 n2, .slice a' l2 c'] 34)).alloc (.map #[] 0)).alloc (.cells #[.int .i64 k1, .int .i64 n1, .slice a l1 c, .int .i64 k2, .int .i64 n2, .slice a' l2 c'] 149)) = W0 at *
 have HB0 := tuck hb0
 have HQ := tuck (And.intro q0 (And.intro q1 (And.intro q2 (And.intro q3 (And.intro q4 q5)))))
 clear hb0 q0 q1 q2 q3 q4 q5 hmm
 go_loopw [6] (fun v wr => (v = .slice (some ⟨w.heap.size + 1 + 1 + 1, 0, none⟩) 1 1 ∧ wr = W0) ∨ (v = .slice (some ⟨w.heap.size + 1 + 1 + 1, 0, none⟩) 0 1 ∧ r = true ∧ Below w.heap.size w wr)) (fun v _ => sliceLen v)
 case atStart => exact Or.inl ⟨rfl, rfl⟩
 case round =>
  rcases hrel with ⟨rfl, rfl⟩ | ⟨rfl, hr, hb⟩
  ·obtain ⟨q0, q1, q2, q3, q4, q5⟩ := HQ.out
   go_wp2_with (go_at_call 110; refine (HR.out _).mono ?_; rintro e w1 ⟨rfl, hb1⟩; obtain ⟨oc, of⟩ := old_cells hb1; have hz1 : wr.heap.size < w1.heap.size := (by have := hb1.size; simp at this; omega); have HB1 := tuck hb1; clear hb1)
   ·go_ret
    have h : (!r) = true := by assumption
    have h2 : r = false := by simpa using h
    exact ⟨ret_bool h2.symm, bAfter (bAfter HB0.out (below1 _ _)) HB1.out⟩
   ·have h : (!r) = false := by assumption
    have h2 : r = true := by simpa using h
    have H2 := tuck h2
    clear h2
    go_roundw
    case rel => exact Or.inr ⟨rfl, H2.out, bAfter (bAfter HB0.out (below1 _ _)) HB1.out⟩
    case measure => simp [sliceLen]
  ·have HB := tuck hb
   have HRR := tuck hr
   clear hb hr
   go_wp2
   go_ret
   exact ⟨ret_bool HRR.out.symm, HB.out⟩
set_option maxRecDepth 100000 in
theorem termSame_any (t u : Tm) (w : World) (v1 v2 : Value) (ht : t.Valid ∨ t.kids = []) (h1 : TmIn w 0 t v1) (h2 : TmIn w 0 u v2) : Calls Tryz.prog 25 #[v1, v2] w (BoolPost w (same t u)) := by
 obtain ⟨s1, rfl, h1⟩ := h1
 obtain ⟨s2, rfl, h2⟩ := h2
 obtain ⟨a, c, rfl⟩ := h1.form
 obtain ⟨a', c', rfl⟩ := h2.form
 have H1 := tuck h1
 have H2 := tuck h2
 have HV : Hid (∀ (w : World), SlIn w 0 t.kids (.slice a t.kids.length c) → Calls Tryz.prog 42 #[.agg #[.int .i64 t.kind, .int .i64 t.num, .slice a t.kids.length c]] w (BoolPost w (tr t.Valid))) := fun w h => validI_any t w _ ⟨_, rfl, h⟩
 clear h1 h2
 by_cases hv : t.Valid
 ·rw [tr_of hv] at HV
  have HT : Hid (∀ (w : World), SlIn w 0 t.kids (.slice a t.kids.length c) → SlIn w 0 u.kids (.slice a' u.kids.length c') → Calls Tryz.prog 64 #[.agg #[.int .i64 t.kind, .int .i64 t.num, .slice a t.kids.length c], .agg #[.int .i64 u.kind, .int .i64 u.num, .slice a' u.kids.length c']] w (BoolPost w (same t u))) := fun w h g => by
   have := sameTree_any t.kids t.kind t.num u w _ _ h ⟨_, rfl, g⟩
   rwa [Tm.eta] at this
  clear ht hv
  generalize same t u = r at *
  go_enter Tryz.func25, Tryz.ntmps25
  go_wp2_with (first | (go_at_call 42; refine (HV.out _ (H1.out.below (below2 _ _ _))).mono ?_; rintro e w1 ⟨rfl, hb1⟩; obtain ⟨oc, of⟩ := old_cells hb1; have HB1 := tuck hb1; clear hb1) | (go_at_call 64; refine (HT.out _ (H1.out.below (bAfter (below2 _ _ _) HB1.out)) (H2.out.below (bAfter (below2 _ _ _) HB1.out))).mono ?_; rintro e w2 ⟨rfl, hb2⟩))
  go_ret
  exact ⟨rfl, bAfter (bAfter (below2 _ _ _) HB1.out) hb2⟩
 ·rw [tr_not hv] at HV
  have hk : t.kids = [] := ht.resolve_left hv
  have HG : Hid (∀ (w : World), Calls Tryz.prog 65 #[.agg #[.int .i64 t.kind, .int .i64 t.num, .slice a t.kids.length c], .agg #[.int .i64 u.kind, .int .i64 u.num, .slice a' u.kids.length c']] w (BoolPost w (same t u))) := fun w => by
   have h := sameGraph_leaf t u a a' c c' w (by rw [hk]; rfl)
   have e : rootSame t u = same t u := by
    rw [same_root, Bool.eq_iff_iff]
    simp only [Bool.and_eq_true, same_iff, rootSame, tr_iff]
    exact ⟨fun h => ⟨h, by rw [hk] at h ⊢; exact (List.length_eq_zero_iff.1 (by have := h.2.2; simpa using this.symm)).symm⟩, fun h => h.1⟩
   rwa [e] at h
  clear ht hv hk
  generalize same t u = r at *
  go_enter Tryz.func25, Tryz.ntmps25
  go_wp2_with (first | (go_at_call 42; refine (HV.out _ (H1.out.below (below2 _ _ _))).mono ?_; rintro e w1 ⟨rfl, hb1⟩; obtain ⟨oc, of⟩ := old_cells hb1; have HB1 := tuck hb1; clear hb1) | (go_at_call 65; refine (HG.out _).mono ?_; rintro e w2 ⟨rfl, hb2⟩))
  go_ret
  exact ⟨rfl, bAfter (bAfter (below2 _ _ _) HB1.out) hb2⟩
end Go.Proofs.YtihlbbbajaepoaaGreat
namespace Go.Proofs.YtihlbbbajaepoaaGreat
open Go.RowKit
set_option linter.unusedSimpArgs false
def IsX (w : World) (X : Nat → Prop) (N : Int → Int) (len : Nat) (v : Value) : Prop :=
 ∃ a cap b o, v = .slice a len cap ∧ len ≤ cap ∧ (0 < len → a = some ⟨b, o, none⟩ ∧ ¬ X b ∧ b < w.heap.size) ∧ ∀ i : Nat, i < len → w.cell? ⟨b, o + i, none⟩ = some (.int .i64 (N i))
theorem IsX.form {w : World} {X : Nat → Prop} {N : Int → Int} {len : Nat} {v : Value} (h : IsX w X N len v) : ∃ a cap, v = .slice a len cap := by
 obtain ⟨a, cap, _, _, h, _⟩ := h
 exact ⟨a, cap, h⟩
theorem IsX.to {w w' : World} {X X' : Nat → Prop} {N : Int → Int} {len : Nat} {v : Value} (h : IsX w X N len v) (hk : ∀ b, ¬ X b → b < w.heap.size → ¬ X' b ∧ b < w'.heap.size ∧ ∀ o, w'.cell? ⟨b, o, none⟩ = w.cell? ⟨b, o, none⟩) : IsX w' X' N len v := by
 obtain ⟨a, cap, b, o, rfl, hlc, h1, h2⟩ := h
 refine ⟨a, cap, b, o, rfl, hlc, fun h0 => ?_, fun i hi => ?_⟩
 ·obtain ⟨e, hx, hb⟩ := h1 h0
  obtain ⟨k1, k2, -⟩ := hk b hx hb
  exact ⟨e, k1, k2⟩
 ·obtain ⟨-, hx, hb⟩ := h1 (by omega)
  obtain ⟨-, -, k3⟩ := hk b hx hb
  exact (k3 _).trans (h2 i hi)
theorem IsX.below {w w' : World} {X : Nat → Prop} {N : Int → Int} {len : Nat} {v : Value} (h : IsX w X N len v) (hb : Below w.heap.size w w') : IsX w' X N len v :=
 h.to fun b hx hbw => ⟨hx, Nat.lt_of_lt_of_le hbw hb.size, fun o => hb.cell (p := ⟨b, o, none⟩) hbw⟩
theorem IsX.ints {w : World} {X : Nat → Prop} {N : Int → Int} {len : Nat} {v : Value} (h : IsX w X N len v) : Ints w 0 N len v := by
 obtain ⟨a, cap, b, o, rfl, -, h1, h2⟩ := h
 exact ⟨a, cap, b, o, rfl, fun h0 => ⟨(h1 h0).1, Nat.zero_le _, (h1 h0).2.2⟩, h2⟩
theorem IsX.congr {w : World} {X : Nat → Prop} {N N' : Int → Int} {len : Nat} {v : Value} (h : IsX w X N len v) (hN : ∀ i : Nat, i < len → N' i = N i) : IsX w X N' len v := by
 obtain ⟨a, cap, b, o, rfl, hlc, h1, h2⟩ := h
 exact ⟨a, cap, b, o, rfl, hlc, h1, fun i hi => by rw [hN i hi]; exact h2 i hi⟩
def cellsN (N : Int → Int) (n : Nat) : List Value := (List.range n).map fun j : Nat => Value.int .i64 (N j)
theorem cellsN_get {N : Int → Int} {n j : Nat} (h : j < n) : (cellsN N n)[j]? = some (.int .i64 (N j)) := by simp [cellsN, h]
theorem cellsN_len (N : Int → Int) (n : Nat) : (cellsN N n).length = n := by simp [cellsN]
def thenN (N : Int → Int) (n : Nat) (N' : Int → Int) : Int → Int := fun j => if j < n then N j else N' (j - n)
theorem cellsN_app (N N' : Int → Int) (n m : Nat) : cellsN N n ++ cellsN N' m = cellsN (thenN N n N') (n + m) := by
 apply List.ext_getElem?
 intro j
 rcases Nat.lt_or_ge j n with h | h
 ·rw [List.getElem?_append_left (by rw [cellsN_len]; exact h), cellsN_get h, cellsN_get (by omega)]
  unfold thenN
  rw [if_pos (by omega)]
 ·rw [List.getElem?_append_right (by rw [cellsN_len]; exact h), cellsN_len]
  rcases Nat.lt_or_ge j (n + m) with h2 | h2
  ·rw [cellsN_get (by omega), cellsN_get h2]
   unfold thenN
   rw [if_neg (by omega), show ((j - n : Nat) : Int) = (j : Int) - n by omega]
  ·rw [List.getElem?_eq_none (by rw [cellsN_len]; omega), List.getElem?_eq_none (by rw [cellsN_len]; omega)]
theorem ownN_isX {w : World} {base n : Nat} {N : Int → Int} {v : Value} {X : Nat → Prop} (h : w.ownsRow base 3 1 v n (cellsN N n)) (hX : ∀ i, X i → i < base) : IsX w X N n v := by
 have hrow := h
 rcases h.2 with ⟨rfl, rfl⟩ | ⟨g, cap, cur, rfl, hb, hg, hnc, -⟩
 ·exact ⟨none, 0, 0, 0, rfl, Nat.le_refl _, fun h => by omega, fun i hi => by omega⟩
 ·refine ⟨_, cap, g, 0, rfl, hnc, fun _ => ⟨rfl, fun hx => ?_, (block_of_cells hg).1⟩, fun i hi => ?_⟩
  ·have := hX _ hx
   omega
  ·have := hrow.cells (g := g) rfl i _ (cellsN_get hi)
   have hadd : (⟨g, 0, none⟩ : Addr).add i = ⟨g, i, none⟩ := by unfold Addr.add; split <;> simp_all
   rw [hadd] at this
   rw [Nat.zero_add]
   exact this
theorem ints_append {W : World} {base n m c : Nat} {N N' : Int → Int} {v : Value} {ao : Option Addr} (h : W.ownsRow base 3 1 v n (cellsN N n)) (hs : IsX W (fun i => v.ownBlock = some i) N' m (.slice ao m c)) (hbase : base ≤ W.heap.size) (hl : n + m ≤ 1000) :
  ∃ v' W', (Builtin.append_ #[28, 28] 28 #[v, .slice ao m c]).run Tryz.prog W = .ok v' W' ∧ W'.ownsRow base 3 1 v' (n + m) (cellsN (thenN N n N') (n + m)) ∧ W.grownBy W' v.ownBlock ∧ (v'.ownBlock = v.ownBlock ∨ v'.ownBlock = some W.heap.size) := by
 obtain ⟨i0, hi0, hz0, hz1, hz2⟩ := info_parts info_int
 have ht := Tryz.underlying28
 by_cases h0 : m = 0
 ·subst h0
  refine ⟨v, W, ?_, ?_, ⟨rfl, rfl, rfl, Nat.le_refl _, fun _ _ _ => rfl⟩, Or.inl rfl⟩
  ·rcases h.2 with ⟨rfl, -⟩ | ⟨g, cap, cur, rfl, -, -, hnc, -⟩
   ·cases ao <;> simp [Builtin.append_, run_underlying ht, sizeOf, typeInfo, hi0, Builtin.lenOf, Builtin.firstCells, storeCells, loadCells, loadCellsFrom]
   ·cases ao <;> simp [Builtin.append_, run_underlying ht, sizeOf, typeInfo, hi0, Builtin.lenOf, Builtin.firstCells, hnc, storeCells, loadCells, loadCellsFrom]
  ·rw [← cellsN_app]
   simpa [cellsN] using h
 ·obtain ⟨a, cap', b, o, he, -, hp, hc⟩ := hs
  cases he
  obtain ⟨rfl, hnx, hbw⟩ := hp (by omega)
  have hadd : ∀ j, (⟨b, o, none⟩ : Addr).add j = ⟨b, o + j, none⟩ := fun j => by unfold Addr.add; split <;> simp_all
  obtain ⟨g, cap, w', hrun, hown, hgrow, hat, -⟩ := run_append_lies (P := Tryz.prog) (w := W) 28 28 base 3 i0 _ 1 8 ht hi0 hz0 hz1 hz2 rfl (by omega) v n (cellsN N n) h ⟨b, o, none⟩ m c (cellsN N' m) (by rw [cellsN_len]; omega) (fun j u hu => by
   rcases Nat.lt_or_ge j m with hj | hj
   ·rw [cellsN_get hj] at hu
    cases hu
    rw [hadd]
    exact hc j hj
   ·rw [List.getElem?_eq_none (by rw [cellsN_len]; exact hj)] at hu
    cases hu) (fun u hu => by
   simp only [cellsN, List.mem_map] at hu
   obtain ⟨j, -, rfl⟩ := hu
   rfl) (by omega) (by unfold maxLen; omega) (by omega) hbase _ rfl
  refine ⟨_, w', hrun, ?_, hgrow, ?_⟩
  ·rw [← cellsN_app]
   exact hown
  ·rcases hat with hat | hat
   ·exact Or.inl (by rw [hat]; rfl)
   ·exact Or.inr (by rw [hat]; rfl)
def Sm (u : Value) : Prop := ∃ b o n c, u = .slice (some ⟨b, o, none⟩) n c
def RowP (base : Nat) (L : List ((Int → Int) × Nat)) (v : Value) (w : World) : Prop :=
 ∃ vs : List Value, vs.length = L.length ∧ w.ownsRow base 28 1 v L.length vs ∧ ∀ j (h : j < L.length), ∃ u, vs[j]? = some u ∧ IsX w (fun i => v.ownBlock = some i ∨ i < base) L[j].1 L[j].2 u ∧ Sm u
theorem RowP.made (W : World) (base : Nat) (h : base ≤ W.heap.size) : RowP base [] (.slice (some ⟨W.heap.size, 0, none⟩) 0 0) (W.alloc (.cells #[] 28)) := by
 have := World.ownsRow_made W #[] 0 (base := base) (e := 28) (size := 1) h (by simp [maxLen]) rfl
 exact ⟨[], rfl, by simpa using this, fun j h => by simp at h⟩
theorem RowP.form {base : Nat} {L : List ((Int → Int) × Nat)} {v : Value} {w : World} (h : RowP base L v w) : ∃ a cap, v = .slice a L.length cap := by
 obtain ⟨vs, -, h, -⟩ := h
 rcases h.2 with ⟨h1, h2⟩ | ⟨g, cap, _, h1, _⟩
 ·exact ⟨none, 0, by rw [h1, h2]⟩
 ·exact ⟨_, _, h1⟩
theorem RowP.lt {base : Nat} {L : List ((Int → Int) × Nat)} {v : Value} {w : World} (h : RowP base L v w) : ∀ g, v.ownBlock = some g → base ≤ g ∧ g < w.heap.size := by
 obtain ⟨vs, -, h, -⟩ := h
 exact h.lt
theorem RowP.below {base : Nat} {L : List ((Int → Int) × Nat)} {v : Value} {w w' : World} (h : RowP base L v w) (hb : Below w.heap.size w w') : RowP base L v w' := by
 obtain ⟨vs, h1, h2, h3⟩ := h
 exact ⟨vs, h1, h2.kept (grown_none hb) (by cases v.ownBlock <;> simp), fun j hj => by
  obtain ⟨u, k1, k2, k3⟩ := h3 j hj
  exact ⟨u, k1, k2.below hb, k3⟩⟩
theorem RowP.push {base : Nat} {L : List ((Int → Int) × Nat)} {v v' u : Value} {W W2 w1 : World} {N : Int → Int} {len : Nat} {vs : List Value} (h1 : vs.length = L.length) (h3 : ∀ j (h : j < L.length), ∃ u, vs[j]? = some u ∧ IsX W (fun i => v.ownBlock = some i ∨ i < base) L[j].1 L[j].2 u ∧ Sm u) (hs : IsX W (fun i => v.ownBlock = some i ∨ i < base) N len u) (hsm : Sm u)
  (hW : Below W.heap.size W W2) (hown : w1.ownsRow base 28 1 v' (L.length + 1) (vs ++ [u])) (hgrow : W2.grownBy w1 v.ownBlock) (hat : v'.ownBlock = v.ownBlock ∨ ∃ g, v'.ownBlock = some g ∧ W.heap.size ≤ g) : RowP base (L ++ [(N, len)]) v' w1 := by
 have key : ∀ (N : Int → Int) (len : Nat) (u : Value), IsX W (fun i => v.ownBlock = some i ∨ i < base) N len u → IsX w1 (fun i => v'.ownBlock = some i ∨ i < base) N len u := fun N len u h => h.to fun b hx hb => by
  have hb2 : b < W2.heap.size := Nat.lt_of_lt_of_le hb hW.size
  refine ⟨fun hx' => ?_, Nat.lt_of_lt_of_le hb2 hgrow.size, fun o => (World.cell?_of_block (hgrow.block b hb2 (fun e => hx (Or.inl e.symm)))).trans (hW.cell (p := ⟨b, o, none⟩) hb)⟩
  rcases hx' with hx' | hx'
  rotate_left
  ·exact hx (Or.inr hx')
  rcases hat with hat | ⟨g, hg, hge⟩
  ·exact hx (Or.inl (hat ▸ hx'))
  ·rw [hg] at hx'
   injection hx' with e
   omega
 refine ⟨vs ++ [u], by simp [h1], by rw [List.length_append]; exact hown, fun j hj => ?_⟩
 rw [List.length_append, List.length_singleton] at hj
 rcases Nat.lt_or_ge j L.length with hlt | hge
 ·obtain ⟨x, k1, k2, k3⟩ := h3 j hlt
  refine ⟨x, by rw [List.getElem?_append_left (by omega)]; exact k1, ?_, k3⟩
  rw [List.getElem_append_left hlt]
  exact key _ _ _ k2
 ·have e : j = L.length := by omega
  subst e
  refine ⟨u, by rw [List.getElem?_append_right (by omega), h1]; simp, ?_, hsm⟩
  rw [List.getElem_append_right (Nat.le_refl _)]
  simp only [Nat.sub_self, List.getElem_cons_zero]
  exact key _ _ _ hs
end Go.Proofs.YtihlbbbajaepoaaGreat
