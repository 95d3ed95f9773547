/-
  LawT.
-/
import Derived.Test.YtihlbbbajaepoaaD01
import Derived.Test.YtihlbbbajaepoaaD04
import Derived.Test.YtihlbbbajaepoaaD05
import Derived.Test.YtihlbbbajaepoaaD08
import Derived.Test.YtihlbbbajaepoaaD12
import Derived.Test.YtihlbbbajaepoaaD13
import Derived.Deep.AppendLies
import Derived.Deep.RegionLaw
import Derived.Laws.AppendOwn
import Derived.OwnWalk
import Derived.ProofKit
import Derived.StillTailTactics
import Derived.Test.YtihlbbbajaepoaaProg
import Derived.WalkSpells
namespace Go.Proofs.Ytihlbbbajaepoaa
open Go.RowKit
def EqPost (w : World) (b : Bool) (e : Ending) (w' : World) : Prop := e = .returned (.bool b) ∧ Below w.heap.size w w'
theorem eqT_of {t u : Tm} (hk : ∀ (w : World) (v1 v2 : Value), SlIn w 0 t.kids v1 → SlIn w 0 u.kids v2 → Calls Try.prog 26 #[v1, v2] w (EqPost w (same t.kids u.kids))) :
  ∀ (w : World) (v1 v2 : Value), TmIn w 0 t v1 → TmIn w 0 u v2 → Calls Try.prog 13 #[v1, v2] w (EqPost w (same t u)) := by
 rintro w v1 v2 ⟨s1, rfl, h1⟩ ⟨s2, rfl, h2⟩
 rw [same_mk]
 generalize t.kind = k1 at *
 generalize u.kind = k2 at *
 generalize t.num = n1 at *
 generalize u.num = n2 at *
 have HK := tuck hk
 have H1 := tuck h1
 have H2 := tuck h2
 clear hk h1 h2
 generalize same t.kids u.kids = bb at *
 go_enter Try.func13, Try.ntmps13
 go_wp2_with (go_at_call 26; refine (HK.out _ _ _ (H1.out.below (below2 _ _ _)) (H2.out.below (below2 _ _ _))).mono ?_; rintro e w' ⟨rfl, hb⟩)
 ·go_ret
  exact ⟨ret_bool (by rw [same_of_ne ‹_›]; simp), below2 _ _ _⟩
 ·go_ret
  exact ⟨ret_bool (by rw [same_of_ne (a := n1) ‹_›]; simp), below2 _ _ _⟩
 ·go_ret
  exact ⟨ret_bool (by rw [same_of_eq (a := k1) ‹_›, same_of_eq (a := n1) ‹_›]; simpa using ‹(!bb) = true›), bAfter (below2 _ _ _) hb⟩
 ·go_ret
  exact ⟨ret_bool (by rw [same_of_eq (a := k1) ‹_›, same_of_eq (a := n1) ‹_›]; simpa using ‹(!bb) = false›), bAfter (below2 _ _ _) hb⟩
set_option maxRecDepth 100000 in
theorem eqS_any : ∀ (l : List Tm) (m : List Tm) (w : World) (v1 v2 : Value), SlIn w 0 l v1 → SlIn w 0 m v2 → Calls Try.prog 26 #[v1, v2] w (EqPost w (same l m)) := by
 intro l
 induction l using Tm.ind with
 | h l ih =>
 intro m w v1 v2 h1 h2
 obtain ⟨a, cap, b, o, rfl, hl, hp, hc⟩ := h1.open
 obtain ⟨a', cap', b', o', rfl, hl', hp', hc'⟩ := h2.open
 clear h1 h2
 have HI := tuck ih
 have HP := tuck hp
 have HP' := tuck hp'
 have HC := tuck hc
 have HC' := tuck hc'
 clear ih hp hp' hc hc'
 unfold maxLen at hl hl'
 by_cases hlen : l.length = m.length
 ·have HL := tuck hlen
  have hne : ((l.length : Int) != (m.length : Int)) = false := by simp [hlen]
  have hge : m.length ≤ l.length := by omega
  have hle : l.length ≤ m.length := by omega
  clear hlen
  go_enter Try.func26, Try.ntmps26
  go_wp2
  go_loopw [5] (fun i wr => ∃ k : Nat, k ≤ l.length ∧ i = .int .i64 k ∧ l.take k = m.take k ∧ Below w.heap.size w wr) (fun i _ => l.length - (intOf i).toNat)
  case atStart => exact ⟨0, Nat.zero_le _, rfl, by simp, Below.refl _ _⟩
  case round =>
   obtain ⟨k, hk, rfl, ht, hb⟩ := hrel
   by_cases hlt : k < l.length
   ·have hltm : k < m.length := by omega
    have hlti : ((k : Int) < (l.length : Int)) := by omega
    have hltj : ((k : Int) < (m.length : Int)) := by omega
    obtain ⟨rfl, _, hbw⟩ := HP.out (by intro e; rw [e] at hlt; simp at hlt)
    obtain ⟨rfl, _, hbw'⟩ := HP'.out (by intro e; rw [e] at hltm; simp at hltm)
    obtain ⟨s, c0, c1, c2, hs⟩ := HC.out k hlt
    obtain ⟨s', d0, d1, d2, hs'⟩ := HC'.out k hltm
    replace c0 := (hb.cell (p := ⟨b, o + k * 3, none⟩) hbw).trans c0
    replace c1 := (hb.cell (p := ⟨b, o + k * 3 + 1, none⟩) hbw).trans c1
    replace c2 := (hb.cell (p := ⟨b, o + k * 3 + 2, none⟩) hbw).trans c2
    replace d0 := (hb.cell (p := ⟨b', o' + k * 3, none⟩) hbw').trans d0
    replace d1 := (hb.cell (p := ⟨b', o' + k * 3 + 1, none⟩) hbw').trans d1
    replace d2 := (hb.cell (p := ⟨b', o' + k * 3 + 2, none⟩) hbw').trans d2
    have HB := tuck hb
    have HT := tuck ht
    have HS := tuck hs
    have HS' := tuck hs'
    have HI' := tuck (HI.out k hlt)
    clear hb ht hs hs' HI
    generalize hx : l[k] = x at *
    generalize hy : m[k] = y at *
    have HX := tuck hx
    have HY := tuck hy
    clear hx hy
    go_wp2_with fail
    go_still_tail 8, (by kernel_rfl)
    change wpList _ _ _ _ _ wr.drew
    go_wp2_with (go_at_call 13; refine (eqT_of (t := x) (u := y) (fun w v1 v2 g1 g2 => HI'.out _ w v1 v2 g1 g2) _ _ _ ⟨s, rfl, HS.out.below (HB.out.drew)⟩ ⟨s', rfl, HS'.out.below (HB.out.drew)⟩).mono ?_; rintro e w' ⟨rfl, hb'⟩)
    ·go_ret
     have h3 : same x y = false := by simpa using ‹(!same x y) = true›
     rw [same_false, ← HX.out, ← HY.out] at h3
     exact ⟨ret_bool (same_false.2 fun e => h3 (by simp [e])).symm, HB.out.drew.trans (hb'.mono HB.out.size)⟩
    ·go_roundw
     case rel =>
      refine ⟨k + 1, by omega, by go_num, ?_, HB.out.drew.trans (hb'.mono HB.out.size)⟩
      have h3 : same x y = true := by simpa using ‹(!same x y) = false›
      rw [same_iff, ← HX.out, ← HY.out] at h3
      rw [List.take_succ_eq_append_getElem hlt, List.take_succ_eq_append_getElem hltm, HT.out, h3]
     case measure => simp [intOf]; omega
   ·have hge2 : ¬ ((k : Int) < (l.length : Int)) := by omega
    have HB := tuck hb
    have HT := tuck ht
    clear hb ht
    go_wp2
    go_ret
    refine ⟨ret_bool ?_, HB.out⟩
    rw [eq_comm, same_iff]
    have hk : k = l.length := by omega
    have h3 := HT.out
    rw [hk] at h3
    exact take_all HL.out h3
 ·have HL := tuck hlen
  have hne : ((l.length : Int) != (m.length : Int)) = true := by simp; omega
  clear hlen
  go_enter Try.func26, Try.ntmps26
  go_wp2
  go_ret
  refine ⟨ret_bool ?_, Below.refl _ _⟩
  rw [eq_comm, same_false]
  intro e
  exact HL.out (by rw [e])
theorem eqT_any (t u : Tm) (w : World) (v1 v2 : Value) (h1 : TmIn w 0 t v1) (h2 : TmIn w 0 u v2) : Calls Try.prog 13 #[v1, v2] w (EqPost w (same t u)) :=
 eqT_of (fun w v1 v2 g1 g2 => eqS_any _ _ w v1 v2 g1 g2) w v1 v2 h1 h2
end Go.Proofs.Ytihlbbbajaepoaa
namespace Go.Proofs.Ytihlbbbajaepoaa
open Go.RowKit
end Go.Proofs.Ytihlbbbajaepoaa
namespace Go.Proofs.Ytihlbbbajaepoaa
open Go.RowKit
end Go.Proofs.Ytihlbbbajaepoaa
namespace Go.Proofs.Ytihlbbbajaepoaa
open Go.RowKit
end Go.Proofs.Ytihlbbbajaepoaa
namespace Go.Proofs.Ytihlbbbajaepoaa
open Go.RowKit
end Go.Proofs.Ytihlbbbajaepoaa
