/-
  SameS.
-/
import Derived.Test.YtjdmfegdgpbkgaaGreatO52
namespace Go.Proofs.YtjdmfegdgpbkgaaGreat
open Go.RowKit
set_option maxRecDepth 100000 in
set_option maxHeartbeats 1600000 in
theorem sameS_any : ∀ (l : List Tm) (k n : Int) (u : Tm) (w : World) (s v2 : Value), SlIn w 0 l s → TmIn w 0 u v2 →
  Calls Tryz.prog 27 #[.agg #[.int .i64 k, .int .i64 n, s], v2] w (BoolPost w (same (.mk k n l) u)) := by
 intro l
 induction l using Tm.ind with
 | h l ih =>
 intro k n u w v1 v2 h1 h2
 obtain ⟨s2, rfl, h2⟩ := h2
 obtain ⟨a, cap, b, o, rfl, hl, hp, hc⟩ := h1.open
 obtain ⟨a', cap', b', o', rfl, hl', hp', hc'⟩ := h2.open
 clear h1 h2
 have HI := tuck ih
 have HP := tuck hp
 have HP' := tuck hp'
 have HC := tuck hc
 have HC' := tuck hc'
 clear ih hp hp' hc hc'
 unfold maxLen at hl hl'
 rw [same_root]
 change Calls _ _ _ _ (BoolPost w (rootSame _ u && same l u.kids))
 have HR : Hid (rootSame (.mk k n l) u = tr (k = u.kind ∧ n = u.num ∧ l.length = u.kids.length)) := rfl
 by_cases e1 : k = u.kind
 rotate_left
 ·have g1 : (k != u.kind) = true := by simpa using e1
  have HF : Hid (rootSame (.mk k n l) u = false) := tuck (HR.out.trans (tr_not fun h => e1 h.1))
  rw [HF.out, Bool.false_and]
  clear HR HF e1
  generalize u.kids = m at *
  generalize u.kind = uk at *
  generalize u.num = un at *
  go_enter Tryz.func27, Tryz.ntmps27
  go_wp2_with fail
  go_ret
  exact ⟨rfl, below2 _ _ _⟩
 have g1 : (k != u.kind) = false := by simpa using e1
 by_cases e2 : n = u.num
 rotate_left
 ·have g2 : (n != u.num) = true := by simpa using e2
  have HF : Hid (rootSame (.mk k n l) u = false) := tuck (HR.out.trans (tr_not fun h => e2 h.2.1))
  rw [HF.out, Bool.false_and]
  clear HR HF e1 e2
  generalize u.kids = m at *
  generalize u.kind = uk at *
  generalize u.num = un at *
  go_enter Tryz.func27, Tryz.ntmps27
  go_wp2_with fail
  go_ret
  exact ⟨rfl, below2 _ _ _⟩
 have g2 : (n != u.num) = false := by simpa using e2
 by_cases e3 : l.length = u.kids.length
 rotate_left
 ·have g3 : ((l.length : Int) != (u.kids.length : Int)) = true := by simp; omega
  have HF : Hid (rootSame (.mk k n l) u = false) := tuck (HR.out.trans (tr_not fun h => e3 h.2.2))
  rw [HF.out, Bool.false_and]
  clear HR HF e1 e2 e3
  generalize u.kids = m at *
  generalize u.kind = uk at *
  generalize u.num = un at *
  go_enter Tryz.func27, Tryz.ntmps27
  go_wp2_with fail
  go_ret
  exact ⟨rfl, below2 _ _ _⟩
 have g3 : ((l.length : Int) != (u.kids.length : Int)) = false := by simp; omega
 rw [HR.out, tr_of ⟨e1, e2, e3⟩, Bool.true_and]
 have HL := tuck e3
 clear e1 e2 e3 HR
 generalize u.kids = m at *
 generalize u.kind = uk at *
 generalize u.num = un at *
 go_enter Tryz.func27, Tryz.ntmps27
 go_wp2_with fail
 have hx : ((w.alloc (.cells #[.int .i64 k, .int .i64 n, .slice a l.length cap] 25)).alloc (.cells #[.int .i64 uk, .int .i64 un, .slice a' m.length cap'] 25)).cell? ⟨w.heap.size, 2, none⟩ = some (.slice a l.length cap) := by go_simp
 have hy : ((w.alloc (.cells #[.int .i64 k, .int .i64 n, .slice a l.length cap] 25)).alloc (.cells #[.int .i64 uk, .int .i64 un, .slice a' m.length cap'] 25)).cell? ⟨w.heap.size + 1, 2, none⟩ = some (.slice a' m.length cap') := by go_simp
 have hz1 : w.heap.size + 1 < ((w.alloc (.cells #[.int .i64 k, .int .i64 n, .slice a l.length cap] 25)).alloc (.cells #[.int .i64 uk, .int .i64 un, .slice a' m.length cap'] 25)).heap.size := by simp
 have hb0 := below2 w (.cells #[.int .i64 k, .int .i64 n, .slice a l.length cap] 25) (.cells #[.int .i64 uk, .int .i64 un, .slice a' m.length cap'] 25)
 generalize (w.alloc (.cells #[.int .i64 k, .int .i64 n, .slice a l.length cap] 25)).alloc (.cells #[.int .i64 uk, .int .i64 un, .slice a' m.length cap'] 25) = w1 at *
 have HBX := tuck hx
 have HBY := tuck hy
 have HB0 := tuck hb0
 clear hx hy hb0
 go_loopw [5] (fun i wr => ∃ q : Nat, q ≤ l.length ∧ i = .int .i64 q ∧ l.take q = m.take q ∧ Below w1.heap.size w1 wr) (fun i _ => l.length - (intOf i).toNat)
 case atStart => exact ⟨0, Nat.zero_le _, rfl, by simp, Below.refl _ _⟩
 case round =>
  obtain ⟨q, hq, rfl, ht, hb⟩ := hrel
  have hx : wr.cell? ⟨w.heap.size, 2, none⟩ = some (.slice a l.length cap) := (hb.cell (p := ⟨w.heap.size, 2, none⟩) (by show w.heap.size < _; omega)).trans HBX.out
  have hy : wr.cell? ⟨w.heap.size + 1, 2, none⟩ = some (.slice a' m.length cap') := (hb.cell (p := ⟨w.heap.size + 1, 2, none⟩) hz1).trans HBY.out
  by_cases hlt : q < l.length
  ·have hltm : q < m.length := by have := HL.out; omega
   have hlti : ((q : Int) < (l.length : Int)) := by omega
   have hltj : ((q : Int) < (m.length : Int)) := by omega
   obtain ⟨rfl, _, hbw⟩ := HP.out (by intro e; rw [e] at hlt; simp at hlt)
   obtain ⟨rfl, _, hbw'⟩ := HP'.out (by intro e; rw [e] at hltm; simp at hltm)
   obtain ⟨s, c0, c1, c2, hs⟩ := HC.out q hlt
   obtain ⟨s', d0, d1, d2, hs'⟩ := HC'.out q hltm
   have hbb := bAfter HB0.out hb
   replace c0 := (hbb.cell (p := ⟨b, o + q * 3, none⟩) hbw).trans c0
   replace c1 := (hbb.cell (p := ⟨b, o + q * 3 + 1, none⟩) hbw).trans c1
   replace c2 := (hbb.cell (p := ⟨b, o + q * 3 + 2, none⟩) hbw).trans c2
   replace d0 := (hbb.cell (p := ⟨b', o' + q * 3, none⟩) hbw').trans d0
   replace d1 := (hbb.cell (p := ⟨b', o' + q * 3 + 1, none⟩) hbw').trans d1
   replace d2 := (hbb.cell (p := ⟨b', o' + q * 3 + 2, none⟩) hbw').trans d2
   have HB := tuck hb
   have HBB := tuck hbb
   have HT := tuck ht
   have HS := tuck hs
   have HS' := tuck hs'
   have HI' := tuck (HI.out q hlt)
   clear hb hbb ht hs hs' HI
   generalize hx1 : l[q] = x at *
   generalize hy1 : m[q] = y at *
   have HX := tuck hx1
   have HY := tuck hy1
   clear hx1 hy1
   go_wp2_with fail
   go_still_tail 10, (by kernel_rfl)
   change wpList _ _ _ _ _ wr.drew
   go_wp2_with (go_at_call 27; refine (HI'.out x.kind x.num y _ _ _ (HS.out.below (HBB.out.drew)) ⟨s', rfl, HS'.out.below (HBB.out.drew)⟩).mono ?_; rintro e w' ⟨rfl, hb'⟩)
   ·go_ret
    have h3 : same (.mk x.kind x.num x.kids) y = false := by simpa using ‹(!same (.mk x.kind x.num x.kids) y) = true›
    rw [Tm.eta, same_false, ← HX.out, ← HY.out] at h3
    exact ⟨ret_bool (same_false.2 fun e => h3 (by simp [e])).symm, HBB.out.drew.trans (hb'.mono HBB.out.size)⟩
   ·have h3 : same (.mk x.kind x.num x.kids) y = true := by simpa using ‹(!same (.mk x.kind x.num x.kids) y) = false›
    rw [Tm.eta, same_iff, ← HX.out, ← HY.out] at h3
    go_roundw
    case rel =>
     refine ⟨q + 1, by omega, by go_num, ?_, HB.out.drew.trans (hb'.mono HB.out.size)⟩
     rw [List.take_succ_eq_append_getElem hlt, List.take_succ_eq_append_getElem hltm, HT.out, h3]
    case measure => simp [intOf]; omega
  ·have hge2 : ¬ ((q : Int) < (l.length : Int)) := by omega
   have HBB := tuck (bAfter HB0.out hb)
   have HT := tuck ht
   clear hb ht
   go_wp2
   go_ret
   have hk : q = l.length := by omega
   have h3 := HT.out
   rw [hk] at h3
   exact ⟨ret_bool (same_iff.2 (take_all HL.out h3)).symm, HBB.out⟩
end Go.Proofs.YtjdmfegdgpbkgaaGreat
