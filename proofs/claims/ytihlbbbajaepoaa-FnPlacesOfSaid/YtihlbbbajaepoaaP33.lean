/-
  PlD, WithS.
-/
import Derived.Test.YtihlbbbajaepoaaP03
import Derived.Test.YtihlbbbajaepoaaP08
import Derived.Test.YtihlbbbajaepoaaP11
import Derived.Test.YtihlbbbajaepoaaP16
import Derived.Test.YtihlbbbajaepoaaP17
import Derived.Test.YtihlbbbajaepoaaP18
import Derived.Test.YtihlbbbajaepoaaP21
import Derived.Test.YtihlbbbajaepoaaP26
import Derived.Test.YtihlbbbajaepoaaP27
import Derived.Test.YtihlbbbajaepoaaP31
import Derived.Test.YtihlbbbajaepoaaP32
import Derived.BigQuiet
import Derived.Deep.DeepCutAuto
import Derived.Deep.QuietTactic
namespace Go.Proofs.Ytihlbbbajaepoaa
open Go.RowKit
set_option maxRecDepth 100000 in
set_option maxHeartbeats 1600000 in
theorem termAtI_any (t : Tm) (N : Int → Int) (len : Nat) (hlen : len ≤ 1048576) (w : World) (vt vp : Value) (ht : TmIn w 0 t vt) (hp : Ints w 0 N len vp) :
  Calls Try.prog 32 #[vt, vp] w (ReplPost w (IsPlace t N len) (wayT t N len)) := by
 obtain ⟨s, rfl, hs⟩ := ht
 obtain ⟨a, c, rfl⟩ := hs.form
 obtain ⟨pa, pc, rfl⟩ := hp.form
 have HNO : Hid (¬ IsPlace t N len → ∀ w', Below w.heap.size w w' → ReplPost w (IsPlace t N len) (wayT t N len) (.returned (.tuple #[.agg #[.int .i64 0, .int .i64 0, .slice none 0 0], .bool false])) w') := tuck fun h w' hb => ReplPost.no h hb
 have HYES : Hid (IsPlace t N len → ∀ w' s F, Below w.heap.size w w' → SlOwn w' (wayT t N len).kids s F → F.Nodup → (∀ g ∈ F, w.heap.size ≤ g ∧ g < w'.heap.size) → ReplPost w (IsPlace t N len) (wayT t N len) (.returned (.tuple #[.agg #[.int .i64 (wayT t N len).kind, .int .i64 (wayT t N len).num, s], .bool true])) w') := tuck fun h w' s F hb hs hn hF => ReplPost.yes h hb hs hn hF
 generalize ReplPost w (IsPlace t N len) (wayT t N len) = post at *
 have HS := tuck hs
 have HP := tuck hp
 have HBX := tuck ((VarAt.new w t.kind t.num (.slice a t.kids.length c)).below (below1 _ (.cells #[.int .i64 0, .int .i64 0, .slice none 0 0] 30)))
 have HBR := tuck (var_new1 w (.cells #[.int .i64 t.kind, .int .i64 t.num, .slice a t.kids.length c] 30) 0 0 (.slice none 0 0))
 clear hs hp
 have HB0 := tuck (below2 w (.cells #[.int .i64 t.kind, .int .i64 t.num, .slice a t.kids.length c] 30) (.cells #[.int .i64 0, .int .i64 0, .slice none 0 0] 30))
 obtain ⟨z, d0, d1, d2, df⟩ := HBX.out.facts
 clear HBX
 go_enter Try.func32, Try.ntmps32
 go_wp2_with fail
 generalize (w.alloc (.cells #[.int .i64 t.kind, .int .i64 t.num, .slice a t.kids.length c] 30)).alloc (.cells #[.int .i64 0, .int .i64 0, .slice none 0 0] 30) = W0 at *
 refine (placeI_any t N len hlen W0 _ _ ⟨_, rfl, HS.out.below HB0.out⟩ (HP.out.below HB0.out)).mono ?_
 rintro e w1 ⟨hb1, hat⟩
 have HB1 := tuck (bAfter HB0.out hb1)
 have HR1 := tuck (HBR.out.below hb1)
 clear z d0 d1 d2 df HBR HP HS
 rcases hat with ⟨hpl, g, M, rfl, hcur, -⟩ | ⟨hno, rfl⟩
 ·have hsz := (valid_bounds hpl.ok.valid).1
  have HY := tuck (HYES.out hpl)
  obtain ⟨xa, xc, zg, g0, g1, g2, hx⟩ := hcur.open
  have HX := tuck hx
  have HCL : Hid (∀ (W : World) (s : Value), SlIn W 0 (wayT t N len).kids s → Calls Try.prog 55 #[.agg #[.int .i64 (wayT t N len).kind, .int .i64 (wayT t N len).num, s]] W (MadePost W (wayT t N len))) := tuck fun W s hs => by
   have := cloneI_any (wayT t N len).kids (wayT t N len).kind (wayT t N len).num W _ (by omega) hs
   rwa [Tm.eta] at this
  clear hcur hx hsz HYES HNO hpl hb1
  generalize wayT t N len = x at *
  go_wp2_with fail
  refine (HCL.out _ _ HX.out).mono ?_
  rintro e w4 ⟨hb4, v4, rfl, s4, F, rfl, hs4, hn4, hF4⟩
  obtain ⟨ya, yc, rfl⟩ := hs4.form
  obtain ⟨z1, r0, r1, r2, rf⟩ := (HR1.out.below hb4).facts
  have HZ := tuck (show w.heap.size + 1 < _ from HR1.out.facts.1)
  go_wp2_with fail
  refine bodyPost_ret (v := .tuple #[.agg #[.int .i64 x.kind, .int .i64 x.num, .slice ya x.kids.length yc], .bool true]) (by simp [results, Try.results32, go_sem, *]) rfl (HY.out _ _ F ?_ ?_ hn4 (fun g hg => ?_))
  ·exact bSet3 (bAfter HB1.out hb4) (Nat.le_succ _) _ _ _ _ _ _
  ·exact hs4.set3 (fun h => by have := (hF4 _ h).1; have := HZ.out; omega) _ _ _ _ _ _
  ·rw [size_set3]
   have := hF4 g hg
   have := HZ.out
   omega
 ·obtain ⟨z1, r0, r1, r2, rf⟩ := HR1.out.facts
  go_wp2_with fail
  refine bodyPost_ret (v := .tuple #[.agg #[.int .i64 0, .int .i64 0, .slice none 0 0], .bool false]) (by simp [results, Try.results32, go_sem, *]) rfl (HNO.out hno _ ?_)
  exact bSet3 HB1.out (Nat.le_succ _) _ _ _ _ _ _
end Go.Proofs.Ytihlbbbajaepoaa
namespace Go.Proofs.Ytihlbbbajaepoaa
open Go.RowKit
def OffY (X : Nat → Prop) (v : Value) : Nat → Prop := fun i => X i ∨ v.ownBlock = some i
def RowY (X : Nat → Prop) (base : Nat) (l : List Tm) (v : Value) (w : World) : Prop :=
 ∃ rs : List (Tm × Value), rs.map (·.1) = l ∧ w.ownsRow base 30 3 v l.length (cellsL rs) ∧ ∀ x ∈ rs, SlX w (OffY X v) x.1.kids x.2
theorem RowY.form {X : Nat → Prop} {base : Nat} {l : List Tm} {v : Value} {w : World} (h : RowY X base l v w) : ∃ a cap, v = .slice a l.length cap := by
 obtain ⟨rs, -, h, -⟩ := h
 rcases h.2 with ⟨h1, h2⟩ | ⟨g, cap, _, h1, _⟩
 ·exact ⟨none, 0, by rw [h1, h2]⟩
 ·exact ⟨_, _, h1⟩
theorem RowY.form' {X : Nat → Prop} {base q : Nat} {l : List Tm} {v : Value} {w : World} (h : RowY X base l v w) (hl : l.length = q) : ∃ a cap, v = .slice a q cap := by
 obtain ⟨a, cap, e⟩ := h.form
 exact ⟨a, cap, by rw [e, hl]⟩
theorem RowY.lt {X : Nat → Prop} {base : Nat} {l : List Tm} {v : Value} {w : World} (h : RowY X base l v w) : ∀ g, v.ownBlock = some g → base ≤ g ∧ g < w.heap.size := by
 obtain ⟨rs, -, h, -⟩ := h
 exact h.lt
theorem RowY.below {X : Nat → Prop} {base : Nat} {l : List Tm} {v : Value} {w w' : World} (h : RowY X base l v w) (hb : Below w.heap.size w w') : RowY X base l v w' := by
 obtain ⟨rs, h1, h2, h3⟩ := h
 exact ⟨rs, h1, h2.kept (grown_none hb) (by cases v.ownBlock <;> simp), fun x hx => (h3 x hx).below hb⟩
theorem RowY.push {X : Nat → Prop} {base : Nat} {l : List Tm} {v v' : Value} {W w1 : World} {t : Tm} {s : Value} (h : RowY X base l v W) (hs : SlX W (OffY X v) t.kids s)
  (hown : ∀ xs, W.ownsRow base 30 3 v l.length xs → w1.ownsRow base 30 3 v' (l.length + 1) (xs ++ [.int .i64 t.kind, .int .i64 t.num, s])) (hgrow : W.grownBy w1 v.ownBlock) (hat : v'.ownBlock = v.ownBlock ∨ v'.ownBlock = some W.heap.size) :
  RowY X base (l ++ [t]) v' w1 := by
 obtain ⟨rs, h1, h2, h3⟩ := h
 have key : ∀ (x : List Tm) (u : Value), SlX W (OffY X v) x u → SlX w1 (OffY X v') x u := fun x u hx => hx.to fun p y hn hc => by
  have hp := World.block_lt_of_cell? W p hc
  refine ⟨?_, (World.cell?_of_block (hgrow.block p.block hp fun e => hn (Or.inr e.symm))).trans hc⟩
  rintro (h | h)
  ·exact hn (Or.inl h)
  ·rcases hat with hat | hat
   ·exact hn (Or.inr (hat ▸ h))
   ·rw [hat] at h
    simp at h
    omega
 refine ⟨rs ++ [(t, s)], by simp [h1], ?_, fun x hx => ?_⟩
 ·have := hown _ h2
  rw [cellsL_append, List.length_append]
  simpa [cellsL] using this
 ·rcases List.mem_append.1 hx with hx | hx
  ·exact key _ _ (h3 x hx)
  ·simp only [List.mem_singleton] at hx
   subst hx
   exact key _ _ hs
theorem RowY.grow {X : Nat → Prop} {base q : Nat} {l : List Tm} {v : Value} {W : World} (h : RowY X base l v W) (hl : l.length = q) : ∃ xs, W.ownsRow base 30 3 v q xs ∧
  ∀ (v' s : Value) (w1 : World) (t : Tm), SlX W (OffY X v) t.kids s → w1.ownsRow base 30 3 v' (q + 1) (xs ++ [.int .i64 t.kind, .int .i64 t.num, s]) →
   W.grownBy w1 v.ownBlock → (v'.ownBlock = v.ownBlock ∨ v'.ownBlock = some W.heap.size) → RowY X base (l ++ [t]) v' w1 := by
 subst hl
 have h0 := h
 obtain ⟨rs, h1, h2, h3⟩ := h
 refine ⟨_, h2, fun v' s w1 t a1 a4 a5 a6 => h0.push a1 (fun xs hx => ?_) a5 a6⟩
 have e : xs = cellsL rs := by
  rcases hx.2 with ⟨e1, e2⟩ | ⟨g, cap, cur, e1, _, r1, _, _, _, r2⟩
  ·have n1 := hx.1
   have n2 := h2.1
   rw [e2] at n1 n2
   exact (List.length_eq_zero_iff.1 (by simpa using n1)).trans (List.length_eq_zero_iff.1 (by simpa using n2)).symm
  ·rcases h2.2 with ⟨f1, f2⟩ | ⟨g', cap', cur', f1, _, q1, _, _, _, q2⟩
   ·rw [e1] at f1
    cases f1
   ·rw [e1] at f1
    simp only [Value.slice.injEq, Option.some.injEq, Addr.mk.injEq, and_true, true_and] at f1
    obtain ⟨rfl, rfl⟩ := f1
    rw [r1] at q1
    cases q1
    rw [← r2, ← q2]
 rw [e]
 exact a4
theorem RowY.done {X : Nat → Prop} {base : Nat} {l : List Tm} {v : Value} {w : World} (h : RowY X base l v w) (hl : l.length ≤ maxLen) (hX : ∀ i, X i → i < base) : SlX w X l v := by
 obtain ⟨rs, h1, h2, h3⟩ := h
 have hrow := h2
 rcases h2.2 with ⟨e1, e2⟩ | ⟨g, cap, cur, rfl, r1, r2, r3⟩
 ·have : l = [] := List.length_eq_zero_iff.1 e2
  subst this
  subst e1
  exact SlX.nil _ _ _ _
 ·obtain ⟨b1, b2, b3⟩ := block_of_cells r2
  have hr : RowAt (mask w X) 0 (rs.map (·.1)) g 0 := by
   refine RowAt.of_list (fun j u hu => ?_) fun x hx => (h3 x hx).to fun p y hn hc => ⟨fun hz => hn (Or.inl hz), hc⟩
   have := hrow.cells (g := g) rfl j u hu
   have hadd : (⟨g, 0, none⟩ : Addr).add j = ⟨g, j, none⟩ := by unfold Addr.add; split <;> simp_all
   rw [hadd] at this
   rw [Nat.zero_add]
   exact mask_cell.2 ⟨fun hz => by have := hX _ hz; dsimp only at this; omega, this⟩
  rw [h1] at hr
  exact ⟨_, _, g, 0, rfl, hl, fun _ => ⟨rfl, Nat.zero_le _⟩, hr⟩
end Go.Proofs.Ytihlbbbajaepoaa
namespace Go.Proofs.Ytihlbbbajaepoaa
open Go.RowKit
end Go.Proofs.Ytihlbbbajaepoaa
