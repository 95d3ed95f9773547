/-
  TeleE, DkT, TeleU, TeleH.
-/
import Derived.Test.YtkjfdhdmkaofeaaB03
import Derived.Test.YtkjfdhdmkaofeaaB18
import Derived.Test.YtkjfdhdmkaofeaaB20
import Derived.Test.YtkjfdhdmkaofeaaB25
import Derived.Test.YtkjfdhdmkaofeaaB26
import Derived.Test.YtkjfdhdmkaofeaaB27
import Derived.Test.YtkjfdhdmkaofeaaB47
import Derived.ChangeAlike
import Derived.RegionTactic
namespace Go.Proofs.Ytkjfdhdmkaofeaa
open Go.RowKit
set_option maxRecDepth 100000 in
set_option maxHeartbeats 1600000 in
theorem dkTerms_any (l : List Tm) (hv : ∀ x ∈ l, x.Valid) (w : World) (v1 v2 : Value) (h1 : SlIn w 0 l v1) (h2 : SlIn w 0 l v2) : Calls Try.prog 11 #[v1, v2] w (BoolPost w true) := by
 obtain ⟨a, cap, b, o, rfl, hl, hp, hc⟩ := h1.open
 obtain ⟨a', cap', b', o', rfl, -, hp', hc'⟩ := h2.open
 clear h1 h2
 have HTV := tuck hv
 have HP := tuck hp
 have HP' := tuck hp'
 have HC := tuck hc
 have HC' := tuck hc'
 clear hp hp' hc hc' hv
 unfold maxLen at hl
 have g3 : ((l.length : Int) != (l.length : Int)) = false := by simp
 go_enter Try.func11, Try.ntmps11
 go_wp2_with fail
 go_loopw [5] (fun i wr => ∃ q : Nat, q ≤ l.length ∧ i = .int .i64 q ∧ Below w.heap.size w wr) (fun i _ => l.length - (intOf i).toNat)
 case atStart => exact ⟨0, Nat.zero_le _, rfl, Below.refl _ _⟩
 case round =>
  obtain ⟨q, hq, rfl, hb⟩ := hrel
  have HB := tuck hb
  by_cases hlt : q < l.length
  ·have hlti : ((q : Int) < (l.length : Int)) := by omega
   obtain ⟨rfl, _, hbw⟩ := HP.out (by intro e; rw [e] at hlt; simp at hlt)
   obtain ⟨rfl, _, hbw'⟩ := HP'.out (by intro e; rw [e] at hlt; simp at hlt)
   obtain ⟨s, c0, c1, c2, hs⟩ := HC.out q hlt
   obtain ⟨s', d0, d1, d2, hs'⟩ := HC'.out q hlt
   replace c0 := (hb.cell (p := ⟨b, o + q * 3, none⟩) hbw).trans c0
   replace c1 := (hb.cell (p := ⟨b, o + q * 3 + 1, none⟩) hbw).trans c1
   replace c2 := (hb.cell (p := ⟨b, o + q * 3 + 2, none⟩) hbw).trans c2
   replace d0 := (hb.cell (p := ⟨b', o' + q * 3, none⟩) hbw').trans d0
   replace d1 := (hb.cell (p := ⟨b', o' + q * 3 + 1, none⟩) hbw').trans d1
   replace d2 := (hb.cell (p := ⟨b', o' + q * 3 + 2, none⟩) hbw').trans d2
   have HS := tuck (hs.below hb)
   have HS' := tuck (hs'.below hb)
   have HX := tuck (same_v (HTV.out l[q] (List.getElem_mem _)))
   clear hb hs hs' HTV HC HC' HP HP'
   generalize l[q] = x at *
   obtain ⟨sa, sc, rfl⟩ := HS.out.form
   obtain ⟨sa', sc', rfl⟩ := HS'.out.form
   go_wp2_with fail
   go_still_tail 8, (by kernel_rfl)
   change wpList _ _ _ _ _ wr.drew
   go_wp2_with (go_at_call 9; refine (HX.out wr.drew _ _ ⟨_, rfl, HS.out.below (Below.refl _ _).drew⟩ ⟨_, rfl, HS'.out.below (Below.refl _ _).drew⟩).mono ?_; rintro e w' ⟨rfl, hb'⟩)
   go_roundw
   case rel => exact ⟨q + 1, by omega, by go_num, HB.out.drew.trans (hb'.mono HB.out.size)⟩
   case measure => simp [intOf]; omega
  ·have hge2 : ¬ ((q : Int) < (l.length : Int)) := by omega
   clear hb
   go_wp2
   go_ret
   exact ⟨rfl, HB.out⟩
end Go.Proofs.Ytkjfdhdmkaofeaa
namespace Go.Proofs.Ytkjfdhdmkaofeaa
open Go.RowKit
noncomputable def orNil (P : Prop) (l : List Tm) : List Tm := @ite _ P (Classical.propDecidable P) l []
def TlPost2 (w : World) (P : Prop) (l : List Tm) (T : Tm) (e : Ending) (w' : World) : Prop := Below w.heap.size w w' ∧ ∃ (a1 : Option Addr) (c1 : Nat) (a0 : Option Addr) (c0 : Nat) (F1 F0 : List Nat), e = .returned (.tuple #[.agg #[.int .i64 (orZero P T).kind, .int .i64 (orZero P T).num, .slice a1 (orZero P T).kids.length c1], .slice a0 (orNil P l).length c0, .bool (tr P)]) ∧ SlOwn w' (orZero P T).kids (.slice a1 (orZero P T).kids.length c1) F1 ∧ SlOwn w' (orNil P l) (.slice a0 (orNil P l).length c0) F0 ∧ (F1 ++ F0).Nodup ∧ ∀ g ∈ F1 ++ F0, w.heap.size ≤ g ∧ g < w'.heap.size
theorem TlPost2.no {w w' : World} {P : Prop} {l : List Tm} {T : Tm} (hP : ¬ P) (hb : Below w.heap.size w w') : TlPost2 w P l T (.returned (.tuple #[.agg #[.int .i64 0, .int .i64 0, .slice none 0 0], .slice none 0 0, .bool false])) w' := by
 have h0 : orNil P l = [] := by unfold orNil; rw [if_neg hP]
 have h1 : orZero P T = zeroT := by unfold orZero; rw [if_neg hP]
 refine ⟨hb, none, 0, none, 0, [], [], ?_, ?_, ?_, List.nodup_nil, fun g h => by cases h⟩
 ·rw [h0, h1, tr_not hP]; rfl
 ·first | (rw [h0]; exact SlOwn.nil _ _ _) | (rw [h1]; exact SlOwn.nil _ _ _)
 ·first | (rw [h1]; exact SlOwn.nil _ _ _) | (rw [h0]; exact SlOwn.nil _ _ _)
theorem TlPost2.yes {w w' : World} {P : Prop} {l : List Tm} {T : Tm} {a b : Option Addr} {c d : Nat} {F G : List Nat} (hP : P) (hb : Below w.heap.size w w') (hl : SlOwn w' l (.slice a l.length c) F) (hT : SlOwn w' T.kids (.slice b T.kids.length d) G) (hF : F.Nodup) (hG : G.Nodup) (hd : ∀ g ∈ F, g ∉ G) (h1 : ∀ g ∈ F, w.heap.size ≤ g ∧ g < w'.heap.size) (h2 : ∀ g ∈ G, w.heap.size ≤ g ∧ g < w'.heap.size) :
  TlPost2 w P l T (.returned (.tuple #[.agg #[.int .i64 T.kind, .int .i64 T.num, .slice b T.kids.length d], .slice a l.length c, .bool true])) w' := by
 have e0 : orNil P l = l := by unfold orNil; rw [if_pos hP]
 have e1 : orZero P T = T := by unfold orZero; rw [if_pos hP]
 refine ⟨hb, b, d, a, c, G, F, ?_, ?_, ?_, ?_, ?_⟩
 ·rw [e0, e1, tr_of hP]
 ·rw [e1]; exact hT
 ·rw [e0]; exact hl
 ·exact List.nodup_append.2 ⟨hG, hF, fun x hx y hy e => hd y hy (e ▸ hx)⟩
 ·intro g hg
  rcases List.mem_append.1 hg with hg | hg
  ·exact h2 g hg
  ·exact h1 g hg
def TlPost2S (w : World) (P : Prop) (l : List Tm) (T : Tm) (e : Ending) (w' : World) : Prop := Below w.heap.size w w' ∧ ∃ (a1 : Option Addr) (c1 : Nat) (a0 : Option Addr) (c0 : Nat), e = .returned (.tuple #[.agg #[.int .i64 (orZero P T).kind, .int .i64 (orZero P T).num, .slice a1 (orZero P T).kids.length c1], .slice a0 (orNil P l).length c0, .bool (tr P)]) ∧ SlIn w' w.heap.size (orZero P T).kids (.slice a1 (orZero P T).kids.length c1) ∧ SlIn w' w.heap.size (orNil P l) (.slice a0 (orNil P l).length c0)
theorem TlPost2S.no {w w' : World} {P : Prop} {l : List Tm} {T : Tm} {x : Option Addr} {y : Nat} (hP : ¬ P) (hb : Below w.heap.size w w') : TlPost2S w P l T (.returned (.tuple #[.agg #[.int .i64 0, .int .i64 0, .slice none 0 0], .slice x 0 y, .bool false])) w' := by
 have h0 : orNil P l = [] := by unfold orNil; rw [if_neg hP]
 have h1 : orZero P T = zeroT := by unfold orZero; rw [if_neg hP]
 refine ⟨hb, none, 0, x, y, ?_, ?_, ?_⟩
 ·rw [h0, h1, tr_not hP]; rfl
 ·rw [h1]; exact SlIn.nil _ _ _ _
 ·rw [h0]; exact SlIn.nil _ _ _ _
theorem TlPost2S.yes {w w' : World} {P : Prop} {l : List Tm} {T : Tm} {a b : Option Addr} {c d : Nat} (hP : P) (hb : Below w.heap.size w w') (hl : SlIn w' w.heap.size l (.slice a l.length c)) (hT : SlIn w' w.heap.size T.kids (.slice b T.kids.length d)) :
  TlPost2S w P l T (.returned (.tuple #[.agg #[.int .i64 T.kind, .int .i64 T.num, .slice b T.kids.length d], .slice a l.length c, .bool true])) w' := by
 have e0 : orNil P l = l := by unfold orNil; rw [if_pos hP]
 have e1 : orZero P T = T := by unfold orZero; rw [if_pos hP]
 refine ⟨hb, b, d, a, c, ?_, ?_, ?_⟩
 ·rw [e0, e1, tr_of hP]
 ·rw [e1]; exact hT
 ·rw [e0]; exact hl
end Go.Proofs.Ytkjfdhdmkaofeaa
namespace Go.Proofs.Ytkjfdhdmkaofeaa
open Go.RowKit
def slLen : Value → Nat
 | .slice _ n _ => n
 | _ => 0
end Go.Proofs.Ytkjfdhdmkaofeaa
namespace Go.Proofs.Ytkjfdhdmkaofeaa
open Go.RowKit
theorem rowT_made (W : World) (base : Nat) (h : base ≤ W.heap.size) : RowT 0 base [] (.slice (some ⟨W.heap.size, 0, none⟩) 0 0) (W.alloc (.cells #[] 25)) := by
 have := World.ownsRow_made W #[] 0 (base := base) (e := 25) (size := 3) h (by simp [maxLen]) rfl
 exact ⟨[], rfl, by simpa [cellsL] using this, fun x h => by cases h⟩
end Go.Proofs.Ytkjfdhdmkaofeaa
