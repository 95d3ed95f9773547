/-
  Same, Text, Brg, ContrT, Vars.
-/
import Derived.Test.YtlbikgnanabjgaaGreatQ03
import Derived.Test.YtlbikgnanabjgaaGreatQ09
import Derived.Test.YtlbikgnanabjgaaGreatQ10
import Derived.Test.YtlbikgnanabjgaaGreatQ13
import Derived.Test.YtlbikgnanabjgaaGreatQ16
import Derived.Test.YtlbikgnanabjgaaGreatQ19
import Derived.Test.YtlbikgnanabjgaaGreatQ20
import Derived.Test.YtlbikgnanabjgaaGreatQ27
import Derived.Test.YtlbikgnanabjgaaGreatQ32
import Derived.Test.YtlbikgnanabjgaaGreatQ33
import Derived.Carry
import Derived.ControlIn
import Derived.Laws.IdiomStrings
import Derived.OrdersIn
import Derived.RangeFuncCalls
namespace Go.Proofs.YtlbikgnanabjgaaGreat
open Go.RowKit
noncomputable def rootSame (t u : Tm) : Bool := tr (t.kind = u.kind ∧ t.num = u.num ∧ t.kids.length = u.kids.length)
theorem sameRoot_any (t u : Tm) (a a' : Option Addr) (c c' : Nat) (w : World) : Calls Tryz.prog 34 #[.agg #[.int .i64 t.kind, .int .i64 t.num, .slice a t.kids.length c], .agg #[.int .i64 u.kind, .int .i64 u.num, .slice a' u.kids.length c']] w (BoolPost w (rootSame t u)) := by
 by_cases h1 : t.kind = u.kind
 rotate_left
 ·rw [show rootSame t u = false from tr_not fun h => h1 h.1]
  have g1 : (t.kind == u.kind) = false := by simpa using h1
  go_enter Tryz.func34, Tryz.ntmps34
  go_wp2
  go_ret
  exact ⟨rfl, below2 _ _ _⟩
 have g1 : (t.kind == u.kind) = true := by simpa using h1
 by_cases h2 : t.num = u.num
 rotate_left
 ·rw [show rootSame t u = false from tr_not fun h => h2 h.2.1]
  have g2 : (t.num == u.num) = false := by simpa using h2
  clear h1 h2
  go_enter Tryz.func34, Tryz.ntmps34
  go_wp2
  go_ret
  exact ⟨rfl, below2 _ _ _⟩
 have g2 : (t.num == u.num) = true := by simpa using h2
 have HR : Hid (rootSame t u = ((t.kids.length : Int) == (u.kids.length : Int))) := by
  show _ = _
  rw [Bool.eq_iff_iff, rootSame, tr_iff, beq_iff_eq]
  exact ⟨fun h => by omega, fun h => ⟨h1, h2, by omega⟩⟩
 generalize rootSame t u = r at *
 clear h1 h2
 go_enter Tryz.func34, Tryz.ntmps34
 go_wp2
 go_ret
 exact ⟨ret_bool HR.out.symm, below2 _ _ _⟩
theorem same_root {t u : Tm} : same t u = (rootSame t u && same t.kids u.kids) := by
 rw [same_mk, Bool.eq_iff_iff]
 simp only [Bool.and_eq_true, same_iff, rootSame, tr_iff]
 constructor
 ·rintro ⟨⟨h1, h2⟩, h3⟩; exact ⟨⟨h1, h2, by rw [h3]⟩, h3⟩
 ·rintro ⟨⟨h1, h2, _⟩, h3⟩; exact ⟨⟨h1, h2⟩, h3⟩
set_option maxRecDepth 100000 in
theorem sameTree_any : ∀ (l : List Tm) (k n : Int) (u : Tm) (w : World) (s v2 : Value), SlIn w 0 l s → TmIn w 0 u v2 →
  Calls Tryz.prog 19 #[.agg #[.int .i64 k, .int .i64 n, s], v2] w (BoolPost w (same (.mk k n l) u)) := by
 intro l
 induction l using Tm.ind with
 | h l ih =>
 intro k n u w v1 v2 h1 h2
 obtain ⟨s2, rfl, h2⟩ := h2
 obtain ⟨a, cap, b, o, rfl, hl, hp, hc⟩ := h1.open
 obtain ⟨a', cap', b', o', rfl, hl', hp', hc'⟩ := h2.open
 clear h1 h2
 have HI := tuck ih
 have HP := tuck hp
 have HP' := tuck hp'
 have HC := tuck hc
 have HC' := tuck hc'
 have HR := tuck (sameRoot_any (.mk k n l) u a a' cap cap')
 clear ih hp hp' hc hc'
 unfold maxLen at hl hl'
 rw [same_root]
 change Hid (∀ w, Calls Tryz.prog 34 #[.agg #[.int .i64 k, .int .i64 n, .slice a l.length cap], _] w _) at HR
 change Calls _ _ _ _ (BoolPost w (rootSame _ u && same l u.kids))
 by_cases hr : rootSame (.mk k n l) u = true
 rotate_left
 ·have hr' : rootSame (.mk k n l) u = false := by simpa using hr
  rw [hr'] at HR ⊢
  clear hr hr'
  go_enter Tryz.func19, Tryz.ntmps19
  go_wp2_with (go_at_call 34; refine (HR.out _).mono ?_; rintro e w1 ⟨rfl, hb1⟩; have HB1 := tuck hb1; clear hb1)
  go_ret
  exact ⟨rfl, bAfter (below2 _ _ _) HB1.out⟩
 rw [hr] at HR ⊢
 have hlen : l.length = u.kids.length := (tr_iff.1 hr).2.2
 clear hr
 rw [Bool.true_and]
 have HL := tuck hlen
 clear hlen
 generalize u.kids = m at *
 generalize u.kind = uk at *
 generalize u.num = un at *
 have hge : m.length ≤ l.length := Nat.le_of_eq HL.out.symm
 have hle : l.length ≤ m.length := Nat.le_of_eq HL.out
 go_enter Tryz.func19, Tryz.ntmps19
 go_wp2_with (go_at_call 34; refine (HR.out _).mono ?_; rintro e w1 ⟨rfl, hb1⟩; obtain ⟨oc, of⟩ := old_cells hb1; have hz1 : w.heap.size + 1 < w1.heap.size := (by have := hb1.size; simp at this; omega); have HB1 := tuck hb1; clear hb1)
 have hx : w1.cell? ⟨w.heap.size, 2, none⟩ = some (.slice a l.length cap) := by rw [oc _ _ (by simp; omega)]; go_simp
 have hy : w1.cell? ⟨w.heap.size + 1, 2, none⟩ = some (.slice a' m.length cap') := by rw [oc _ _ (by simp)]; go_simp
 have HBX := tuck hx
 have HBY := tuck hy
 have HB0 := tuck (bAfter (below2 _ _ _) HB1.out)
 clear oc of hx hy HB1 HR
 go_loopw [13] (fun i wr => ∃ q : Nat, q ≤ l.length ∧ i = .int .i64 q ∧ l.take q = m.take q ∧ Below w1.heap.size w1 wr) (fun i _ => l.length - (intOf i).toNat)
 case atStart => exact ⟨0, Nat.zero_le _, rfl, by simp, Below.refl _ _⟩
 case round =>
  obtain ⟨q, hq, rfl, ht, hb⟩ := hrel
  have hx : wr.cell? ⟨w.heap.size, 2, none⟩ = some (.slice a l.length cap) := (hb.cell (p := ⟨w.heap.size, 2, none⟩) (by show w.heap.size < _; omega)).trans HBX.out
  have hy : wr.cell? ⟨w.heap.size + 1, 2, none⟩ = some (.slice a' m.length cap') := (hb.cell (p := ⟨w.heap.size + 1, 2, none⟩) hz1).trans HBY.out
  by_cases hlt : q < l.length
  ·have hltm : q < m.length := by omega
   have hlti : ((q : Int) < (l.length : Int)) := by omega
   have hltj : ((q : Int) < (m.length : Int)) := by omega
   obtain ⟨rfl, _, hbw⟩ := HP.out (by intro e; rw [e] at hlt; simp at hlt)
   obtain ⟨rfl, _, hbw'⟩ := HP'.out (by intro e; rw [e] at hltm; simp at hltm)
   obtain ⟨s, c0, c1, c2, hs⟩ := HC.out q hlt
   obtain ⟨s', d0, d1, d2, hs'⟩ := HC'.out q hltm
   have hbb := bAfter HB0.out hb
   replace c0 := (hbb.cell (p := ⟨b, o + q * 3, none⟩) hbw).trans c0
   replace c1 := (hbb.cell (p := ⟨b, o + q * 3 + 1, none⟩) hbw).trans c1
   replace c2 := (hbb.cell (p := ⟨b, o + q * 3 + 2, none⟩) hbw).trans c2
   replace d0 := (hbb.cell (p := ⟨b', o' + q * 3, none⟩) hbw').trans d0
   replace d1 := (hbb.cell (p := ⟨b', o' + q * 3 + 1, none⟩) hbw').trans d1
   replace d2 := (hbb.cell (p := ⟨b', o' + q * 3 + 2, none⟩) hbw').trans d2
   have HB := tuck hb
   have HBB := tuck hbb
   have HT := tuck ht
   have HS := tuck hs
   have HS' := tuck hs'
   have HI' := tuck (HI.out q hlt)
   clear hb hbb ht hs hs' HI
   generalize hx1 : l[q] = x at *
   generalize hy1 : m[q] = y at *
   have HX := tuck hx1
   have HY := tuck hy1
   clear hx1 hy1
   go_wp2_with fail
   go_still_tail 10, (by kernel_rfl)
   change wpList _ _ _ _ _ wr.drew
   go_wp2_with (go_at_call 19; refine (HI'.out x.kind x.num y _ _ _ (HS.out.below (HBB.out.drew)) ⟨s', rfl, HS'.out.below (HBB.out.drew)⟩).mono ?_; rintro e w' ⟨rfl, hb'⟩)
   ·go_ret
    have h3 : same (.mk x.kind x.num x.kids) y = false := by simpa using ‹(!same (.mk x.kind x.num x.kids) y) = true›
    rw [Tm.eta, same_false, ← HX.out, ← HY.out] at h3
    exact ⟨ret_bool (same_false.2 fun e => h3 (by simp [e])).symm, HBB.out.drew.trans (hb'.mono HBB.out.size)⟩
   ·have h3 : same (.mk x.kind x.num x.kids) y = true := by simpa using ‹(!same (.mk x.kind x.num x.kids) y) = false›
    rw [Tm.eta, same_iff, ← HX.out, ← HY.out] at h3
    go_roundw
    case rel =>
     refine ⟨q + 1, by omega, by go_num, ?_, HB.out.drew.trans (hb'.mono HB.out.size)⟩
     rw [List.take_succ_eq_append_getElem hlt, List.take_succ_eq_append_getElem hltm, HT.out, h3]
    case measure => simp [intOf]; omega
  ·have hge2 : ¬ ((q : Int) < (l.length : Int)) := by omega
   have HBB := tuck (bAfter HB0.out hb)
   have HT := tuck ht
   clear hb ht
   go_wp2
   go_ret
   have hk : q = l.length := by omega
   have h3 := HT.out
   rw [hk] at h3
   exact ⟨ret_bool (same_iff.2 (take_all HL.out h3)).symm, HBB.out⟩
def sliceLen : Value → Nat | .slice _ n _ => n | _ => 0
set_option maxRecDepth 100000 in
theorem sameGraph_leaf (t u : Tm) (a a' : Option Addr) (c c' : Nat) (w : World) (h0 : t.kids.length = 0) : Calls Tryz.prog 20 #[.agg #[.int .i64 t.kind, .int .i64 t.num, .slice a t.kids.length c], .agg #[.int .i64 u.kind, .int .i64 u.num, .slice a' u.kids.length c']] w (BoolPost w (rootSame t u)) := by
 have HR := tuck (sameRoot_any t u a a' c c')
 have HZ := tuck h0
 have hz : ((t.kids.length : Int) == 0) = true := by simp [h0]
 clear h0
 generalize rootSame t u = r at *
 generalize t.kind = k1 at *
 generalize t.num = n1 at *
 generalize u.kind = k2 at *
 generalize u.num = n2 at *
 generalize t.kids.length = l1 at *
 generalize u.kids.length = l2 at *
 have hmm := @run_makeMap Tryz.prog
 go_enter Tryz.func20, Tryz.ntmps20
 go_wp2_with fail
 have hb0 : Below w.heap.size w ((((w.alloc (.cells #[.int .i64 k1, .int .i64 n1, .slice a l1 c] 25)).alloc (.cells #[.int .i64 k2, .int .i64 n2, .slice a' l2 c'] 25)).alloc (.map #[] 0)).alloc (.cells #[.int .i64 k1, .int .i64 n1, .slice a l1 c, .int .i64 k2, .int .i64 n2, .slice a' l2 c'] 68)) := (((below1 w _).alloc (by simp) _).alloc (by simp; omega) _).alloc (by simp; omega) _
 have q0 : ((((w.alloc (.cells #[.int .i64 k1, .int .i64 n1, .slice a l1 c] 25)).alloc (.cells #[.int .i64 k2, .int .i64 n2, .slice a' l2 c'] 25)).alloc (.map #[] 0)).alloc (.cells #[.int .i64 k1, .int .i64 n1, .slice a l1 c, .int .i64 k2, .int .i64 n2, .slice a' l2 c'] 68)).cell? ⟨w.heap.size + 1 + 1 + 1, 0, none⟩ = some (.int .i64 k1) := by go_simp
 have q1 : ((((w.alloc (.cells #[.int .i64 k1, .int .i64 n1, .slice a l1 c] 25)).alloc (.cells #[.int .i64 k2, .int .i64 n2, .slice a' l2 c'] 25)).alloc (.map #[] 0)).alloc (.cells #[.int .i64 k1, .int .i64 n1, .slice a l1 c, .int .i64 k2, .int .i64 n2, .slice a' l2 c'] 68)).cell? ⟨w.heap.size + 1 + 1 + 1, 1, none⟩ = some (.int .i64 n1) := by go_simp
 have q2 : ((((w.alloc (.cells #[.int .i64 k1, .int .i64 n1, .slice a l1 c] 25)).alloc (.cells #[.int .i64 k2, .int .i64 n2, .slice a' l2 c'] 25)).alloc (.map #[] 0)).alloc (.cells #[.int .i64 k1, .int .i64 n1, .slice a l1 c, .int .i64 k2, .int .i64 n2, .slice a' l2 c'] 68)).cell? ⟨w.heap.size + 1 + 1 + 1, 2, none⟩ = some (.slice a l1 c) := by go_simp
 have q3 : ((((w.alloc (.cells #[.int .i64 k1, .int .i64 n1, .slice a l1 c] 25)).alloc (.cells #[.int .i64 k2, .int .i64 n2, .slice a' l2 c'] 25)).alloc (.map #[] 0)).alloc (.cells #[.int .i64 k1, .int .i64 n1, .slice a l1 c, .int .i64 k2, .int .i64 n2, .slice a' l2 c'] 68)).cell? ⟨w.heap.size + 1 + 1 + 1, 3, none⟩ = some (.int .i64 k2) := by go_simp
 have q4 : ((((w.alloc (.cells #[.int .i64 k1, .int .i64 n1, .slice a l1 c] 25)).alloc (.cells #[.int .i64 k2, .int .i64 n2, .slice a' l2 c'] 25)).alloc (.map #[] 0)).alloc (.cells #[.int .i64 k1, .int .i64 n1, .slice a l1 c, .int .i64 k2, .int .i64 n2, .slice a' l2 c'] 68)).cell? ⟨w.heap.size + 1 + 1 + 1, 4, none⟩ = some (.int .i64 n2) := by go_simp
 have q5 : ((((w.alloc (.cells #[.int .i64 k1, .int .i64 n1, .slice a l1 c] 25)).alloc (.cells #[.int .i64 k2, .int .i64 n2, .slice a' l2 c'] 25)).alloc (.map #[] 0)).alloc (.cells #[.int .i64 k1, .int .i64 n1, .slice a l1 c, .int .i64 k2, .int .i64 n2, .slice a' l2 c'] 68)).cell? ⟨w.heap.size + 1 + 1 + 1, 5, none⟩ = some (.slice a' l2 c') := by go_simp
 generalize ((((w.alloc (.cells #[.int .i64 k1, .int .i64 n1, .slice a l1 c] 25)).alloc (.cells #[.int .i64 k2, .int .i64 n2, .slice a' l2 c'] 25)).alloc (.map #[] 0)).alloc (.cells #[.int .i64 k1, .int .i64 n1, .slice a l1 c, .int .i64 k2, .int .i64 n2, .slice a' l2 c'] 68)) = W0 at *
 have HB0 := tuck hb0
 have HQ := tuck (And.intro q0 (And.intro q1 (And.intro q2 (And.intro q3 (And.intro q4 q5)))))
 clear hb0 q0 q1 q2 q3 q4 q5 hmm
 go_loopw [6] (fun v wr => (v = .slice (some ⟨w.heap.size + 1 + 1 + 1, 0, none⟩) 1 1 ∧ wr = W0) ∨ (v = .slice (some ⟨w.heap.size + 1 + 1 + 1, 0, none⟩) 0 1 ∧ r = true ∧ Below w.heap.size w wr)) (fun v _ => sliceLen v)
 case atStart => exact Or.inl ⟨rfl, rfl⟩
 case round =>
  rcases hrel with ⟨rfl, rfl⟩ | ⟨rfl, hr, hb⟩
  ·obtain ⟨q0, q1, q2, q3, q4, q5⟩ := HQ.out
   go_wp2_with (go_at_call 34; refine (HR.out _).mono ?_; rintro e w1 ⟨rfl, hb1⟩; obtain ⟨oc, of⟩ := old_cells hb1; have hz1 : wr.heap.size < w1.heap.size := (by have := hb1.size; simp at this; omega); have HB1 := tuck hb1; clear hb1)
   ·go_ret
    have h : (!r) = true := by assumption
    have h2 : r = false := by simpa using h
    exact ⟨ret_bool h2.symm, bAfter (bAfter HB0.out (below1 _ _)) HB1.out⟩
   ·have h : (!r) = false := by assumption
    have h2 : r = true := by simpa using h
    have H2 := tuck h2
    clear h2
    go_roundw
    case rel => exact Or.inr ⟨rfl, H2.out, bAfter (bAfter HB0.out (below1 _ _)) HB1.out⟩
    case measure => simp [sliceLen]
  ·have HB := tuck hb
   have HRR := tuck hr
   clear hb hr
   go_wp2
   go_ret
   exact ⟨ret_bool HRR.out.symm, HB.out⟩
set_option maxRecDepth 100000 in
theorem termSame_any (t u : Tm) (w : World) (v1 v2 : Value) (ht : t.Valid ∨ t.kids = []) (h1 : TmIn w 0 t v1) (h2 : TmIn w 0 u v2) : Calls Tryz.prog 8 #[v1, v2] w (BoolPost w (same t u)) := by
 obtain ⟨s1, rfl, h1⟩ := h1
 obtain ⟨s2, rfl, h2⟩ := h2
 obtain ⟨a, c, rfl⟩ := h1.form
 obtain ⟨a', c', rfl⟩ := h2.form
 have H1 := tuck h1
 have H2 := tuck h2
 have HV : Hid (∀ (w : World), SlIn w 0 t.kids (.slice a t.kids.length c) → Calls Tryz.prog 10 #[.agg #[.int .i64 t.kind, .int .i64 t.num, .slice a t.kids.length c]] w (BoolPost w (tr t.Valid))) := fun w h => validI_any t w _ ⟨_, rfl, h⟩
 clear h1 h2
 by_cases hv : t.Valid
 ·rw [tr_of hv] at HV
  have HT : Hid (∀ (w : World), SlIn w 0 t.kids (.slice a t.kids.length c) → SlIn w 0 u.kids (.slice a' u.kids.length c') → Calls Tryz.prog 19 #[.agg #[.int .i64 t.kind, .int .i64 t.num, .slice a t.kids.length c], .agg #[.int .i64 u.kind, .int .i64 u.num, .slice a' u.kids.length c']] w (BoolPost w (same t u))) := fun w h g => by
   have := sameTree_any t.kids t.kind t.num u w _ _ h ⟨_, rfl, g⟩
   rwa [Tm.eta] at this
  clear ht hv
  generalize same t u = r at *
  go_enter Tryz.func8, Tryz.ntmps8
  go_wp2_with (first | (go_at_call 10; refine (HV.out _ (H1.out.below (below2 _ _ _))).mono ?_; rintro e w1 ⟨rfl, hb1⟩; obtain ⟨oc, of⟩ := old_cells hb1; have HB1 := tuck hb1; clear hb1) | (go_at_call 19; refine (HT.out _ (H1.out.below (bAfter (below2 _ _ _) HB1.out)) (H2.out.below (bAfter (below2 _ _ _) HB1.out))).mono ?_; rintro e w2 ⟨rfl, hb2⟩))
  go_ret
  exact ⟨rfl, bAfter (bAfter (below2 _ _ _) HB1.out) hb2⟩
 ·rw [tr_not hv] at HV
  have hk : t.kids = [] := ht.resolve_left hv
  have HG : Hid (∀ (w : World), Calls Tryz.prog 20 #[.agg #[.int .i64 t.kind, .int .i64 t.num, .slice a t.kids.length c], .agg #[.int .i64 u.kind, .int .i64 u.num, .slice a' u.kids.length c']] w (BoolPost w (same t u))) := fun w => by
   have h := sameGraph_leaf t u a a' c c' w (by rw [hk]; rfl)
   have e : rootSame t u = same t u := by
    rw [same_root, Bool.eq_iff_iff]
    simp only [Bool.and_eq_true, same_iff, rootSame, tr_iff]
    exact ⟨fun h => ⟨h, by rw [hk] at h ⊢; exact (List.length_eq_zero_iff.1 (by have := h.2.2; simpa using this.symm)).symm⟩, fun h => h.1⟩
   rwa [e] at h
  clear ht hv hk
  generalize same t u = r at *
  go_enter Tryz.func8, Tryz.ntmps8
  go_wp2_with (first | (go_at_call 10; refine (HV.out _ (H1.out.below (below2 _ _ _))).mono ?_; rintro e w1 ⟨rfl, hb1⟩; obtain ⟨oc, of⟩ := old_cells hb1; have HB1 := tuck hb1; clear hb1) | (go_at_call 20; refine (HG.out _).mono ?_; rintro e w2 ⟨rfl, hb2⟩))
  go_ret
  exact ⟨rfl, bAfter (bAfter (below2 _ _ _) HB1.out) hb2⟩
end Go.Proofs.YtlbikgnanabjgaaGreat
namespace Go.Proofs.YtlbikgnanabjgaaGreat
open Go.RowKit
structure TV (g : Nat) (T : Tm) (a : Option Addr) (c : Nat) (w : World) : Prop where
 var : VarAt g T.kind T.num (.slice a T.kids.length c) w
 sl : SlIn w 0 T.kids (.slice a T.kids.length c)
theorem TV.below {g : Nat} {T : Tm} {a : Option Addr} {c : Nat} {w w' : World} (h : TV g T a c w) (hb : Below w.heap.size w w') : TV g T a c w' := ⟨h.var.below hb, h.sl.below hb⟩
theorem TV.new {T : Tm} {a : Option Addr} {c : Nat} {w : World} (h : SlIn w 0 T.kids (.slice a T.kids.length c)) : TV w.heap.size T a c (w.alloc (.cells #[.int .i64 T.kind, .int .i64 T.num, .slice a T.kids.length c] 25)) := ⟨VarAt.new _ _ _ _, h.below (below1 _ _)⟩
theorem TV.tm {g : Nat} {T : Tm} {a : Option Addr} {c : Nat} {w : World} (h : TV g T a c w) : TmIn w 0 T (.agg #[.int .i64 T.kind, .int .i64 T.num, .slice a T.kids.length c]) := ⟨_, rfl, h.sl⟩
theorem TV.facts {g : Nat} {T : Tm} {a : Option Addr} {c : Nat} {w : World} (h : TV g T a c w) : g < w.heap.size ∧ w.cell? ⟨g, 0, none⟩ = some (.int .i64 T.kind) ∧ w.cell? ⟨g, 1, none⟩ = some (.int .i64 T.num) ∧ w.cell? ⟨g, 2, none⟩ = some (.slice a T.kids.length c) ∧ ∀ i, w.frozen? ⟨g, i, none⟩ = false := h.var.facts
theorem same_v {T : Tm} (hT : T.Valid) (w : World) (v1 v2 : Value) (h1 : TmIn w 0 T v1) (h2 : TmIn w 0 T v2) : Calls Tryz.prog 8 #[v1, v2] w (BoolPost w true) := by
 have := termSame_any T T w v1 v2 (Or.inl hT) h1 h2
 rwa [same_self] at this
end Go.Proofs.YtlbikgnanabjgaaGreat
namespace Go.Proofs.YtlbikgnanabjgaaGreat
open Go.RowKit
theorem lcontract_any (t : Tm) (hr : t.rootOk) (hk : ∀ i (hi : i < t.kids.length), t.kids[i].Valid) (h0 : t.redex ≠ 0) (w : World) (s : Value) (hs : SlIn w 0 t.kids s) :
  Calls Tryz.prog 51 #[.agg #[.int .i64 t.kind, .int .i64 t.num, s]] w (SPost w t.contr) := by
 rcases redex_shape hr h0 with ⟨e, -⟩ | ⟨e, -⟩ | ⟨e, -⟩ | ⟨e, -⟩ | ⟨e, -⟩ | ⟨e, -⟩
 ·exact lcontr1_any t hr hk e w s hs
 ·exact lcontr2_any t hr hk e w s hs
 ·exact lcontr3_any t hr hk e w s hs
 ·exact lcontr4_any t hr hk e w s hs
 ·exact lcontr5_any t hr hk e w s hs
 ·exact lcontr6_any t hr hk e w s hs
end Go.Proofs.YtlbikgnanabjgaaGreat
namespace Go.Proofs.YtlbikgnanabjgaaGreat
open Go.RowKit
def decS (n : Nat) : ByteArray := if n ≤ 9 then ByteArray.mk #[UInt8.ofNat (48 + n)] else ByteArray.mk #[UInt8.ofNat (48 + n / 10), UInt8.ofNat (48 + n % 10)]
def kidS (L : List ByteArray) (i : Nat) : ByteArray := L.getD i (ByteArray.mk #[])
def joinN (L : List ByteArray) : Nat → ByteArray
 | 0 => (ByteArray.mk #[])
 | q + 1 => (if 0 < q then joinN L q ++ (ByteArray.mk #[44]) else joinN L q) ++ kidS L q
def txtOf (k : Int) (n : Nat) (L : List ByteArray) : ByteArray :=
 if k = 1 then (ByteArray.mk #[35]) ++ decS n else if k = 2 then (ByteArray.mk #[42]) ++ decS n else if k = 6 then (ByteArray.mk #[78]) else if k = 7 then (ByteArray.mk #[48])
 else if k = 8 then (ByteArray.mk #[43]) ++ kidS L 0
 else if k = 11 then (ByteArray.mk #[33]) ++ kidS L 0
 else if k = 15 then (ByteArray.mk #[94]) ++ kidS L 0
 else if k = 16 then (ByteArray.mk #[95]) ++ kidS L 0
 else if k = 3 then (ByteArray.mk #[40]) ++ kidS L 0 ++ (ByteArray.mk #[62]) ++ kidS L 1 ++ (ByteArray.mk #[41])
 else if k = 13 then (ByteArray.mk #[40]) ++ kidS L 0 ++ (ByteArray.mk #[42]) ++ kidS L 1 ++ (ByteArray.mk #[41])
 else if k = 5 then (ByteArray.mk #[40]) ++ kidS L 0 ++ (ByteArray.mk #[32]) ++ kidS L 1 ++ (ByteArray.mk #[41])
 else if k = 4 then (ByteArray.mk #[91]) ++ kidS L 0 ++ (ByteArray.mk #[93]) ++ kidS L 1
 else if k = 10 then (ByteArray.mk #[123]) ++ joinN L 3 ++ (ByteArray.mk #[125])
 else if k = 14 then (ByteArray.mk #[124]) ++ joinN L 3 ++ (ByteArray.mk #[124])
 else if k = 12 then (ByteArray.mk #[64, 60]) ++ joinN L 3 ++ (ByteArray.mk #[62])
 else (ByteArray.mk #[60]) ++ joinN L 4 ++ (ByteArray.mk #[62])
mutual
def Tm.txt : Tm → ByteArray
 | .mk k n l => txtOf k n.toNat (txtL l)
def txtL : List Tm → List ByteArray
 | [] => []
 | t :: l => t.txt :: txtL l
end
theorem kidS_txt : ∀ (l : List Tm) (i : Nat) (h : i < l.length), kidS (txtL l) i = l[i].txt
 | t :: l, 0, h => by rw [txtL]; rfl
 | t :: l, i + 1, h => by
  have := kidS_txt l i (by simpa using h)
  rw [txtL]
  exact this
theorem decS_size (n : Nat) : (decS n).size ≤ 2 := by unfold decS; split <;> simp [ByteArray.size]
def StrPost (w : World) (s : ByteArray) (e : Ending) (w' : World) : Prop := e = .returned (.string s) ∧ Below w.heap.size w w'
theorem ba_empty (a : ByteArray) : a ++ ByteArray.mk #[] = a := by
 apply ByteArray.ext
 simp [ByteArray.data_append]
theorem ba_pair (x y : UInt8) : ByteArray.mk #[x] ++ ByteArray.mk #[y] = ByteArray.mk #[x, y] := by
 apply ByteArray.ext
 simp [ByteArray.data_append]
theorem byte_text (m : Nat) (hm : m ≤ 255) (W : World) : (convert 22 9 (.slice (some ⟨W.heap.size, 0, none⟩) 1 1)).run Tryz.prog (W.alloc (.cells #[.int .u8 m] 5)) = .ok (.string (ByteArray.mk #[UInt8.ofNat m])) (W.alloc (.cells #[.int .u8 m] 5)) := by
 have h := run_convert_bytes_back (P := Tryz.prog) (W.alloc (.cells #[.int .u8 m] 5)) 22 9 5 ⟨W.heap.size, 0, none⟩ 1 [UInt8.ofNat m] Tryz.underlying22 Tryz.underlying5 Tryz.underlying9 (fun j hj => by
  have hj0 : j = 0 := by simpa using hj
  subst hj0
  have e : (UInt8.ofNat m).toNat = m := by simp; omega
  simp only [List.getElem_cons_zero, e]
  show (W.alloc _).cell? ⟨W.heap.size, 0, none⟩ = _
  rw [World.cell?_alloc_new]
  rfl)
 exact h
set_option maxRecDepth 100000 in
set_option maxHeartbeats 1600000 in
theorem dec_any (n : Nat) (hn : n ≤ 99) (w : World) : Calls Tryz.prog 82 #[.int .i64 n] w (StrPost w (decS n)) := by
 have HP : Hid (∀ s w', s = decS n → Below w.heap.size w w' → StrPost w (decS n) (.returned (.string s)) w') := tuck fun s w' h hb => by rw [h]; exact ⟨rfl, hb⟩
 generalize StrPost w (decS n) = post at *
 have h1 : decide ((n : Int) < -9223372036854775807) = false := decide_eq_false (by omega)
 have h2 : decide ((n : Int) < 0) = false := decide_eq_false (by omega)
 have HT := tuck byte_text
 go_enter Tryz.func82, Tryz.ntmps82
 go_wp2_with fail
 go_loopw [0, 3] (fun m out wr => ∃ (k : Nat) (o : ByteArray), out = .string o ∧ m = .int .i64 k ∧ k ≤ n ∧ Below w.heap.size w wr ∧ ((k = n ∧ o = ByteArray.mk #[]) ∨ (9 < n ∧ k = n / 10 ∧ o = ByteArray.mk #[UInt8.ofNat (48 + n % 10)]))) (fun m _ _ => (intOf m).toNat)
 case atStart => exact ⟨n, _, rfl, rfl, Nat.le_refl _, Below.refl _ _, Or.inl ⟨rfl, rfl⟩⟩
 case round =>
  obtain ⟨k, o, rfl, rfl, hk, hb, hor⟩ := hrel
  have HB := tuck hb
  have HOR := tuck hor
  clear hb hor
  by_cases h9 : k ≤ 9
  ·have h3 : decide ((9 : Int) < (k : Int)) = false := decide_eq_false (by omega)
   have hcv := HT.out (48 + k) (by omega) wr
   rw [show ((48 + k : Nat) : Int) = 48 + (k : Int) by omega] at hcv
   obtain ⟨c, hc⟩ : ∃ c, c = ByteArray.mk #[UInt8.ofNat (48 + k)] := ⟨_, rfl⟩
   rw [← hc] at hcv
   have hsz : ¬ (9223372036854775807 < c.size + o.size) := by
    have h1 : c.size = 1 := by rw [hc]; rfl
    have h2 : o.size ≤ 1 := by rcases HOR.out with ⟨_, rfl⟩ | ⟨_, _, rfl⟩ <;> simp [ByteArray.size]
    omega
   have HEND : Hid (∀ w', Below w.heap.size w w' → post (.returned (.string (c ++ o))) w') := tuck fun w' hb => HP.out _ w' (by
    rw [hc]
    rcases HOR.out with ⟨rfl, rfl⟩ | ⟨h10, rfl, rfl⟩
    ·rw [ba_empty, decS, if_pos h9]
    ·rw [ba_pair, decS, if_neg (by omega)]) hb
   clear hc
   go_wp2_with fail
   exact HEND.out _ (HB.out.alloc (HB.out.size) _)
  ·have h3 : decide ((9 : Int) < (k : Int)) = true := decide_eq_true (by omega)
   have hcv := HT.out (48 + k % 10) (by omega) wr
   rw [show ((48 + k % 10 : Nat) : Int) = 48 + (k : Int) % 10 by omega] at hcv
   have HKN : Hid (k = n ∧ o = ByteArray.mk #[]) := tuck (by
    rcases HOR.out with h | ⟨h10, rfl, rfl⟩
    ·exact h
    ·omega)
   obtain ⟨c, hc⟩ : ∃ c, c = ByteArray.mk #[UInt8.ofNat (48 + k % 10)] := ⟨_, rfl⟩
   rw [← hc] at hcv
   have hsz : ¬ (9223372036854775807 < c.size + o.size) := by
    have h1 : c.size = 1 := by rw [hc]; rfl
    have h2 : o.size ≤ 1 := by rcases HOR.out with ⟨_, rfl⟩ | ⟨_, _, rfl⟩ <;> simp [ByteArray.size]
    omega
   have HC := tuck hc
   clear HOR hc
   go_wp2_with fail
   go_roundw
   case rel =>
    obtain ⟨rfl, rfl⟩ := HKN.out
    exact ⟨k / 10, _, rfl, by go_num, by omega, HB.out.alloc (HB.out.size) _, Or.inr ⟨by omega, rfl, by rw [HC.out]; exact ba_empty _⟩⟩
   case measure => simp [intOf]; omega
end Go.Proofs.YtlbikgnanabjgaaGreat
namespace Go.Proofs.YtlbikgnanabjgaaGreat
open Go
def noDefer (ops : Array Oper) : Bool := ops.all fun o => match o.op with | .defer _ => false | _ => true
theorem noDefer_spec {ops : Array Oper} (h : noDefer ops = true) {j : Nat} {o : Oper} (hj : ops[j]? = some o) : ∀ c, o.op ≠ .defer c := by
 intro c hc
 unfold noDefer at h
 rw [Array.all_eq_true'] at h
 have := h o (Array.mem_of_getElem? hj)
 rw [hc] at this
 cases this
section
variable {P : Program} {ops : Array Oper} {Q : Exit → Act → World → Prop} {md : Region.Mode} {l n : Nat}
theorem uponIn_of {o : Oper} {a : Act} {K : Act → World → Prop} {r : Result Next} (h : o.upon P a K Q r) : o.uponIn (Fence.wide.inRound l) n P a K Q r := by
 unfold Oper.upon at h
 unfold Oper.uponIn
 split at h
 ·exact h
 ·exact h
 ·exact h
 ·exact ⟨fun h => (by cases h), CallsIn.inRound l (callsIn_wide.2 h)⟩
 ·refine ⟨fun h => (by cases h), fun c cs _ => ?_⟩
  obtain ⟨v, w', h1, h2⟩ := h c cs
  exact ⟨v, w', h1, stepsIn_wide.2 h2⟩
 ·exact h
 ·exact h.elim
theorem wpOpIn_of (hnd : noDefer ops = true) (ho : ¬ LetsOut Q) {i : Nat} {K : Act → World → Prop} {a : Act} {w : World} (h : wpOp P ops Q i K a w) : wpOpIn (Fence.wide.inRound l) n P ops Q i K a w := by
 unfold wpOp at h
 unfold wpOpIn
 split
 ·rename_i hi
  simpa [hi] using h
 ·rename_i o hoi
  have ho' := ho
  simp only [hoi] at h
  split
  ·rename_i hw
   simp only [hw, if_true] at h
   refine ⟨fun _ _ => trivial, ?_⟩
   rw [Oper.semAt_eq _ _ _ (noDefer_spec hnd hoi)]
   rcases h with h | ⟨-, h⟩
   ·exact uponIn_of h
   ·exact absurd h ho'
  ·rename_i hw
   simp only [hw] at h
   exact ⟨fun _ _ => trivial, h⟩
theorem wpAnyIn_of (hnd : noDefer ops = true) (ho : ¬ LetsOut Q) : ∀ (fuel : Nat) (L : Array Bool) (a : Act) (w : World), wpAny P md ops Q fuel L a w → wpAnyIn (Fence.wide.inRound l) n P md ops Q fuel L a w
 | 0, _, _, _, h => h
 | fuel + 1, _, _, _, h => ⟨h.1, fun i hi => wpOpIn_mono (fun a' w' h' => wpAnyIn_of hnd ho fuel _ a' w' h') (wpOpIn_of hnd ho (h.2 i hi))⟩
theorem AnyTwo.beginIn {id : Nat} {a : Act} {w : World} (S1 S2 : World → Prop) (m : Nat) (hm : P.follows .mixedOrders = true) (hnd : noDefer ops = true) (ho : ¬ LetsOut Q)
  (h : AnyTwo P .any ops Q S1 S2 m ops.size (Array.replicate ops.size false) a w.drew) : (Code.region id ops true).wpIn (Fence.wide.inRound l) n P Q a w :=
 wpIn_region_any hm (wpAnyIn_of hnd ho _ _ _ _ (AnyTwo.any _ _ _ _ h))
theorem AnyTwo.beginN {id : Nat} {a : Act} {w : World} (S1 S2 : World → Prop) (m : Nat) (hm : P.follows .mixedOrders = true) (hnd : noDefer ops = true)
  (h : AnyTwo P .any ops (fun e a w => e = .normal ∧ Q .normal a w) S1 S2 m ops.size (Array.replicate ops.size false) a w.drew) : (Code.region id ops true).wpIn (Fence.wide.inRound l) n P Q a w :=
 wpIn_mono (AnyTwo.beginIn S1 S2 m hm hnd (fun ⟨_, _, h⟩ => nomatch h.1) h) (fun e a w h => by rw [h.1]; exact h.2)
end
end Go.Proofs.YtlbikgnanabjgaaGreat
