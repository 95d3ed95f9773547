/-
  Norm, NodeX, Pure.
-/
import Derived.Test.YtlnpebdmekccaaaGreatE03
import Derived.Test.YtlnpebdmekccaaaGreatE05
import Derived.Test.YtlnpebdmekccaaaGreatE10
import Derived.Test.YtlnpebdmekccaaaGreatE16
import Derived.Test.YtlnpebdmekccaaaGreatE17
import Derived.Test.YtlnpebdmekccaaaGreatE18
namespace Go.Proofs.YtlnpebdmekccaaaGreat
theorem under_succ (k : Int) (i : Nat) : 0 ≤ under k i := (under_01 k i).1
-- limits and occurrences
-- shifts
mutual
theorem Tm.shift_size (e : Int) : ∀ (t : Tm) (c : Int), (t.shift e c).size = t.size
 | .mk k n l, c => by rw [Tm.shift, Tm.size, Tm.size, shiftL_sizes e l k 0 c]
theorem shiftL_sizes (e : Int) : ∀ (l : List Tm) (k : Int) (i : Nat) (c : Int), sizes (shiftL e k l i c) = sizes l
 | [], _, _, _ => by rw [shiftL]
 | t :: l, k, i, c => by rw [shiftL, sizes, sizes, Tm.shift_size e t, shiftL_sizes e l]
end
mutual
theorem Tm.times_shift (e : Int) : ∀ (t : Tm) (c x : Int), t.keeps e c → (x < c → (t.shift e c).times x = t.times x) ∧ (c ≤ x → c ≤ x + e → (t.shift e c).times (x + e) = t.times x) ∧ (c ≤ x → x + e < c → t.times x = 0)
 | .mk k n l, c, x, h => by
  rw [Tm.keeps] at h
  obtain ⟨h1, h2, h3⟩ := timesL_shift e l k 0 c x h.2
  have hk := h.1
  rw [Tm.shift, Tm.times, Tm.times, Tm.times]
  refine ⟨fun hx => ?_, fun hx hx' => ?_, fun hx hx' => ?_⟩
  ·rw [h1 hx]
   congr 1
   by_cases e1 : k = 1 ∧ c ≤ n
   ·have := hk e1
    rw [if_pos e1, if_neg (by omega), if_neg (by omega)]
   ·rw [if_neg e1]
  ·rw [h2 hx hx']
   congr 1
   by_cases e1 : k = 1 ∧ c ≤ n
   ·rw [if_pos e1]
    by_cases e2 : n = x
    ·rw [if_pos ⟨e1.1, by omega⟩, if_pos ⟨e1.1, e2⟩]
    ·rw [if_neg (by omega), if_neg (by omega)]
   ·rw [if_neg e1, if_neg (by omega), if_neg (by omega)]
  ·rw [h3 hx hx', if_neg]
   ·rfl
   ·rintro ⟨rfl, rfl⟩
    have := hk ⟨rfl, hx⟩
    omega
theorem timesL_shift (e : Int) : ∀ (l : List Tm) (k : Int) (i : Nat) (c x : Int), keepsL e k l i c → (x < c → timesL k (shiftL e k l i c) i x = timesL k l i x) ∧ (c ≤ x → c ≤ x + e → timesL k (shiftL e k l i c) i (x + e) = timesL k l i x) ∧ (c ≤ x → x + e < c → timesL k l i x = 0)
 | [], _, _, _, _, _ => by simp [shiftL, timesL]
 | t :: l, k, i, c, x, h => by
  rw [keepsL] at h
  obtain ⟨h1, h2, h3⟩ := timesL_shift e l k (i + 1) c x h.2
  obtain ⟨g1, g2, g3⟩ := Tm.times_shift e t (c + under k i) (x + under k i) h.1
  rw [shiftL, timesL, timesL, timesL]
  refine ⟨fun hx => by rw [h1 hx, g1 (by omega)], fun hx hx' => ?_, fun hx hx' => by rw [h3 hx hx', g3 (by omega) (by omega)]; rfl⟩
  rw [h2 hx hx', show x + e + under k i = x + under k i + e by omega, g2 (by omega) (by omega)]
end
mutual
theorem Tm.most_shift (e : Int) : ∀ (t : Tm) (b : Int), t.keeps e b → (t.most b = 0 → t.shift e b = t) ∧ (0 < t.most b → (t.shift e b).most b = t.most b + e ∧ 0 < t.most b + e) ∧ 0 ≤ t.most b
 | .mk k n l, b, h => by
  rw [Tm.keeps] at h
  obtain ⟨h1, h2, h3⟩ := mostL_shift e l k 0 b h.2
  have hk := h.1
  rw [Tm.shift, Tm.most, Tm.most]
  by_cases e1 : k = 1 ∧ b ≤ n
  ·have e2 : k = 1 ∧ b ≤ n + e := ⟨e1.1, hk e1⟩
   simp only [if_pos e1, if_pos e2]
   refine ⟨fun hm => by omega, fun hm => ?_, by omega⟩
   by_cases hz : mostL k l 0 b = 0
   ·rw [h1 hz, hz]; omega
   ·obtain ⟨h4, h5⟩ := h2 (by omega)
    rw [h4]; omega
  ·simp only [if_neg e1]
   refine ⟨fun hm => by rw [h1 (by omega)], fun hm => ?_, by omega⟩
   obtain ⟨h4, h5⟩ := h2 (by omega)
   rw [h4]; omega
theorem mostL_shift (e : Int) : ∀ (l : List Tm) (k : Int) (i : Nat) (b : Int), keepsL e k l i b → (mostL k l i b = 0 → shiftL e k l i b = l) ∧ (0 < mostL k l i b → mostL k (shiftL e k l i b) i b = mostL k l i b + e ∧ 0 < mostL k l i b + e) ∧ 0 ≤ mostL k l i b
 | [], _, _, _, _ => by rw [shiftL, mostL]; exact ⟨fun _ => rfl, fun h => by omega, by omega⟩
 | t :: l, k, i, b, h => by
  rw [keepsL] at h
  obtain ⟨h1, h2, h3⟩ := mostL_shift e l k (i + 1) b h.2
  obtain ⟨g1, g2, g3⟩ := Tm.most_shift e t (b + under k i) h.1
  rw [shiftL, mostL, mostL]
  refine ⟨fun hm => by rw [h1 (by omega), g1 (by omega)], fun hm => ?_, by omega⟩
  by_cases ha : t.most (b + under k i) = 0
  ·rw [g1 ha, ha]
   obtain ⟨h4, h5⟩ := h2 (by omega)
   rw [h4]; omega
  ·obtain ⟨g4, g5⟩ := g2 (by omega)
   rw [g4]
   by_cases hz : mostL k l (i + 1) b = 0
   ·rw [h1 hz, hz]; omega
   ·obtain ⟨h4, h5⟩ := h2 (by omega)
    rw [h4]; omega
end
-- substitutions
mutual
theorem Tm.subst_closed (u : Tm) : ∀ (t : Tm) (b d : Int), t.most b = 0 → t.subst u b d = t
 | .mk k n l, b, d, h => by
  have hs := fun h => substL_closed u l k 0 b d h
  have hb := mostL_ge l k 0 b
  rw [Tm.most] at h
  have e1 : ¬ (k = 1 ∧ b ≤ n) := fun e => by rw [if_pos e] at h; omega
  rw [if_neg e1] at h
  rw [Tm.subst, if_neg (by omega), if_neg (by omega), hs (by omega)]
theorem substL_closed (u : Tm) : ∀ (l : List Tm) (k : Int) (i : Nat) (b d : Int), mostL k l i b = 0 → substL u k l i b d = l
 | [], _, _, _, _, _ => by rw [substL]
 | t :: l, k, i, b, d, h => by
  have h1 := Tm.most_ge t (b + under k i)
  have h2 := mostL_ge l k (i + 1) b
  rw [mostL] at h
  rw [substL, Tm.subst_closed u t _ _ (by omega), substL_closed u l k _ b d (by omega)]
theorem Tm.most_ge : ∀ (t : Tm) (b : Int), 0 ≤ t.most b
 | .mk k n l, b => by have := mostL_ge l k 0 b; rw [Tm.most]; omega
theorem mostL_ge : ∀ (l : List Tm) (k : Int) (i : Nat) (b : Int), 0 ≤ mostL k l i b
 | [], _, _, _ => by rw [mostL]; omega
 | t :: l, k, i, b => by have := Tm.most_ge t (b + under k i); rw [mostL]; omega
end
mutual
theorem Tm.shift_in (e d : Int) (hd : 0 ≤ d) : ∀ (t : Tm) (c0 c : Int), c0 ≤ c → c ≤ c0 + d → (t.shift d c0).shift e c = t.shift (d + e) c0
 | .mk k n l, c0, c, h0, h1 => by
  rw [Tm.shift, Tm.shift, Tm.shift, shiftL_in e d hd l k 0 c0 c h0 h1]
  congr 1
  by_cases hk : k = 1 ∧ c0 ≤ n
  ·rw [if_pos hk, if_pos ⟨hk.1, by omega⟩, if_pos hk]; omega
  ·rw [if_neg hk, if_neg hk, if_neg (by omega)]
theorem shiftL_in (e d : Int) (hd : 0 ≤ d) : ∀ (l : List Tm) (k : Int) (i : Nat) (c0 c : Int), c0 ≤ c → c ≤ c0 + d → shiftL e k (shiftL d k l i c0) i c = shiftL (d + e) k l i c0
 | [], _, _, _, _, _, _ => by rw [shiftL, shiftL, shiftL]
 | t :: l, k, i, c0, c, h0, h1 => by
  rw [shiftL, shiftL, shiftL, Tm.shift_in e d hd t _ _ (by omega) (by omega), shiftL_in e d hd l k _ c0 c h0 h1]
end
mutual
theorem Tm.shift_subst (v : Tm) (e : Int) (he : 0 ≤ e) : ∀ (t : Tm) (c x d : Int), 0 ≤ c → c ≤ d → c ≤ x → (t.shift e c).subst v (x + e) (d + e) = (t.subst v x d).shift e c
 | .mk k n l, c, x, d, h0, h1, h2 => by
  rw [Tm.shift, Tm.subst, Tm.subst]
  by_cases hx : k = 1 ∧ n = x
  ·rw [if_pos ⟨hx.1, by omega⟩, if_pos ⟨hx.1, by omega⟩, Tm.shift_in e d (by omega) v 0 c h0 (by omega)]
  ·have hn : ¬ (k = 1 ∧ (if k = 1 ∧ c ≤ n then n + e else n) = x + e) := by
    rintro ⟨rfl, h⟩
    by_cases hc : c ≤ n
    ·rw [if_pos ⟨rfl, hc⟩] at h
     exact hx ⟨rfl, by omega⟩
    ·rw [if_neg (fun e => hc e.2)] at h
     omega
   rw [if_neg hn, if_neg hx, Tm.shift, shiftL_subst v e he l k 0 c x d h0 h1 h2]
   clear hn
   congr 1
   (repeat' split) <;> omega
theorem shiftL_subst (v : Tm) (e : Int) (he : 0 ≤ e) : ∀ (l : List Tm) (k : Int) (i : Nat) (c x d : Int), 0 ≤ c → c ≤ d → c ≤ x → substL v k (shiftL e k l i c) i (x + e) (d + e) = shiftL e k (substL v k l i x d) i c
 | [], _, _, _, _, _, _, _, _ => by rw [shiftL, substL, substL, shiftL]
 | t :: l, k, i, c, x, d, h0, h1, h2 => by
  have := under_succ k i
  rw [shiftL, substL, substL, shiftL, show x + e + under k i = x + under k i + e by omega, show d + e + under k i = d + under k i + e by omega,
   Tm.shift_subst v e he t _ _ _ (by omega) (by omega) (by omega), shiftL_subst v e he l k _ c x d h0 h1 h2]
end
mutual
theorem Tm.subst_room (u : Tm) (b : Int) (hb : 0 ≤ b) : ∀ (t : Tm) (c d x : Int), c ≤ x → x ≤ c + b → (t.shift (b + 1) c).subst u x d = t.shift b c
 | .mk k n l, c, d, x, h0, h1 => by
  rw [Tm.shift, Tm.subst, Tm.shift, substL_room u b hb l k 0 c d x h0 h1]
  by_cases hk : k = 1 ∧ c ≤ n
  ·rw [if_pos hk, if_neg (by omega), if_pos ⟨hk.1, by omega⟩, if_pos hk]
   congr 1; omega
  ·rw [if_neg hk, if_neg (by omega), if_neg (by omega), if_neg hk]
theorem substL_room (u : Tm) (b : Int) (hb : 0 ≤ b) : ∀ (l : List Tm) (k : Int) (i : Nat) (c d x : Int), c ≤ x → x ≤ c + b → substL u k (shiftL (b + 1) k l i c) i x d = shiftL b k l i c
 | [], _, _, _, _, _, _, _ => by rw [shiftL, substL, shiftL]
 | t :: l, k, i, c, d, x, h0, h1 => by
  rw [shiftL, substL, shiftL, Tm.subst_room u b hb t _ _ _ (by omega) (by omega), substL_room u b hb l k _ c d x h0 h1]
end
-- renamings
end Go.Proofs.YtlnpebdmekccaaaGreat
namespace Go.Proofs.YtlnpebdmekccaaaGreat
open Go.RowKit
mutual
def Tm.nf : Tm → Bool
 | .mk k n l => nfL l && ((Tm.mk k n l).redex == 0)
def nfL : List Tm → Bool
 | [] => true
 | t :: l => t.nf && nfL l
end
mutual
theorem Tm.find_nf : ∀ t : Tm, (t.find false false).isNone = t.nf
 | .mk k n l => by
  rw [Tm.find, Tm.nf]
  have h := findL_nf (.mk k n l) l 0
  by_cases hr : (Tm.mk k n l).redex = 0
  ·rw [if_neg (by simp [hr]), ← h]
   cases findL false false (.mk k n l) l 0 <;> simp [hr]
  ·rw [if_pos ⟨hr, rfl⟩]
   simp [hr]
theorem findL_nf (t0 : Tm) : ∀ (l : List Tm) (i : Nat), (findL false false t0 l i).isNone = nfL l
 | [], _ => by rw [findL, nfL]; rfl
 | t :: l, i => by
  rw [findL, nfL, ← Tm.find_nf t, ← findL_nf t0 l (i + 1), if_neg (by simp)]
  cases t.find false false <;> rfl
end
noncomputable def normalOf (t : Tm) : Bool := tr (t.Valid ∧ t.nf = true)
set_option maxRecDepth 100000 in
theorem outside_any (w : World) : Calls Tryz.prog 39 #[] w fun e w' => e = .returned (.agg #[.bool false, .bool false]) ∧ Below w.heap.size w w' := by
 go_enter Tryz.func39, Tryz.ntmps39
 go_wp2_with fail
 refine bodyPost_ret (v := .agg #[.bool false, .bool false]) (by simp [results, Tryz.results39, go_sem, *]) rfl ⟨rfl, ?_⟩
 exact below1 _ _
set_option maxRecDepth 100000 in
set_option maxHeartbeats 1600000 in
theorem normalI_any (t : Tm) (w : World) (v : Value) (h : TmIn w 0 t v) : Calls Tryz.prog 12 #[v] w (BoolPost w (normalOf t)) := by
 obtain ⟨s, rfl, hs⟩ := h
 obtain ⟨a, c, rfl⟩ := hs.form
 have HS := tuck hs
 have HV : Hid (∀ (w : World), SlIn w 0 t.kids (.slice a t.kids.length c) → Calls Tryz.prog 30 #[.agg #[.int .i64 t.kind, .int .i64 t.num, .slice a t.kids.length c]] w (BoolPost w (tr t.Valid))) := fun w h => validI_any t w _ ⟨_, rfl, h⟩
 clear hs
 by_cases hv : t.Valid
 ·rw [tr_of hv] at HV
  have HF : Hid (∀ (W : World) (M : Nat → Prop) (g : Nat), Below w.heap.size w W → w.heap.size ≤ g → StackAt g [] M W → Calls Tryz.prog 40 #[.agg #[.bool false, .bool false], .agg #[.int .i64 t.kind, .int .i64 t.num, .slice a t.kids.length c], .pointer (some ⟨g, 0, none⟩)] W (FindPost w g 0 58 #[.slice none 0 0] [] M W t (.slice a t.kids.length c) (t.find false false))) := tuck fun W M g h1 h2 h3 => by
   have := find_any (u := w) g 0 _ _ false false t.kids t.kind t.num W [] M (.slice a t.kids.length c) (View.of_below h1 fun i hi => Nat.le_trans h2 (h3.lt i hi).1) h3 (by rw [Tm.eta]; exact hv.1) (by have := hv.2.1; have := t.hgt_eq; simp; omega) HS.out
   rwa [Tm.eta] at this
  have hN : normalOf t = (t.find false false).isNone := by rw [t.find_nf]; unfold normalOf; cases hn : t.nf <;> simp [tr, hv]
  rw [hN]
  clear hv hN
  go_enter Tryz.func12, Tryz.ntmps12
  go_wp2_with fail
  refine (HV.out _ (HS.out.below (below1 _ _))).mono ?_
  rintro e w1 ⟨rfl, hb1⟩
  have HV1 := tuck ((VarAt.new w t.kind t.num (.slice a t.kids.length c)).below hb1)
  have HB1 := tuck (bAfter (below1 _ _) hb1)
  clear hb1
  have HB2 := tuck (below1 w1 (.cells #[.slice none 0 0] 58))
  have HST : Hid (StackAt w1.heap.size [] (fun i => i = w1.heap.size ∨ (Value.slice none 0 0).ownBlock = some i) (w1.alloc (.cells #[.slice none 0 0] 58))) := tuck (StackAt.new w1)
  have HV2 := tuck (HV1.out.below HB2.out)
  obtain ⟨z0, c0, c1, c2, -⟩ := HV2.out.facts
  have HZ := tuck HB1.out.size
  go_wp2_with fail
  have HB := tuck (bAfter HB1.out HB2.out)
  have HM : Hid (∀ i, (i = w1.heap.size ∨ (Value.slice none 0 0).ownBlock = some i) → w.heap.size ≤ i) := tuck (by
   have := HZ.out
   rintro i (rfl | h)
   ·omega
   ·cases h)
  have HNB : Hid (∀ i, (w1.alloc (.cells #[.slice none 0 0] 58)).heap.size ≤ i → ¬ (i = w1.heap.size ∨ (Value.slice none 0 0).ownBlock = some i)) := tuck fun i h hm => by have := (HST.out.lt i hm).2; omega
  have HG : Hid (w.heap.size ≤ w1.heap.size) := tuck HB1.out.size
  clear HV HB1 HB2 HV1
  generalize (w1.alloc (.cells #[.slice none 0 0] 58)) = W2 at *
  generalize w1.heap.size = g at *
  cases hf : t.find false false with
  | none =>
   rw [hf] at HF
   have HFN := tuck hf
   clear hf
   go_region_with (first | (go_at_call 39; refine (outside_any _).mono ?_; rintro e w3 ⟨rfl, hb3⟩; (first | (have HBL : Hid (VarAt W2.heap.size 0 0 (.slice none 0 0) w3) := tuck ((VarAt.new W2.drew 0 0 (.slice none 0 0)).below hb3); have HB3 : Hid (Below W2.heap.size W2 w3) := tuck (bAfter (bAfter (Below.refl _ _).drew (below1 _ _)) hb3)) | (have HB3 : Hid (Below W2.heap.size W2 w3) := tuck (bAfter (Below.refl _ _).drew hb3))); obtain ⟨z3, d0, d1, d2, -⟩ := (HV2.out.below HB3.out).facts; clear hb3) | (go_at_call 40; (first | (have HBf : Hid (Below W2.heap.size W2 (w3.alloc (.cells #[.int .i64 0, .int .i64 0, .slice none 0 0] 25))) := tuck (bAfter HB3.out (below1 _ _)); have HBL := tuck (VarAt.new w3 0 0 (.slice none 0 0)); refine (HF.out _ _ g (bAfter HB.out HBf.out) HG.out (HST.out.below HBf.out)).mono ?_; rintro e w4 ⟨M4, hs4, rfl, hst4⟩; have HB4 : Hid (Below w.heap.size w w4) := tuck (hs4.below (bAfter HB.out HBf.out) (bAfter HB.out HBf.out).size HM.out); obtain ⟨z4, f0, f1, f2, f3⟩ := VarAt.facts ((hs4.block w3.heap.size HBL.out.facts.1 (HNB.out _ HB3.out.size)).trans HBL.out : VarAt w3.heap.size 0 0 (.slice none 0 0) w4); clear hs4) | (have HBLX : Hid (VarAt W2.heap.size 0 0 (.slice none 0 0) w3) := HBL; have HBf := tuck HB3.out; refine (HF.out _ _ g (bAfter HB.out HBf.out) HG.out (HST.out.below HBf.out)).mono ?_; rintro e w4 ⟨M4, hs4, rfl, hst4⟩; have HB4 : Hid (Below w.heap.size w w4) := tuck (hs4.below (bAfter HB.out HBf.out) (bAfter HB.out HBf.out).size HM.out); obtain ⟨z4, f0, f1, f2, f3⟩ := VarAt.facts ((hs4.block W2.heap.size HBL.out.facts.1 (HNB.out _ (Nat.le_refl _))).trans HBL.out : VarAt W2.heap.size 0 0 (.slice none 0 0) w4); clear hs4) | (have HBf := tuck HB3.out; refine (HF.out _ _ g (bAfter HB.out HBf.out) HG.out (HST.out.below HBf.out)).mono ?_; rintro e w4 ⟨M4, hs4, rfl, hst4⟩; have HB4 : Hid (Below w.heap.size w w4) := tuck (hs4.below (bAfter HB.out HBf.out) (bAfter HB.out HBf.out).size HM.out); clear hs4))))
   all_goals go_wp2_with fail
   all_goals go_ret
   all_goals first | exact ⟨by rw [HFN.out]; rfl, bAfter HB4.out (below1 _ _)⟩ | exact ⟨by rw [HFN.out]; rfl, bSet3 HB4.out (Nat.le_trans HB.out.size (Nat.le_refl _)) _ _ _ _ _ _⟩ | exact ⟨by rw [HFN.out]; rfl, bSet3 HB4.out (Nat.le_trans HB.out.size HB3.out.size) _ _ _ _ _ _⟩
  | some y =>
   obtain ⟨p, y⟩ := y
   rw [hf] at HF
   have HFN := tuck hf
   clear hf
   go_region_with (first | (go_at_call 39; refine (outside_any _).mono ?_; rintro e w3 ⟨rfl, hb3⟩; (first | (have HBL : Hid (VarAt W2.heap.size 0 0 (.slice none 0 0) w3) := tuck ((VarAt.new W2.drew 0 0 (.slice none 0 0)).below hb3); have HB3 : Hid (Below W2.heap.size W2 w3) := tuck (bAfter (bAfter (Below.refl _ _).drew (below1 _ _)) hb3)) | (have HB3 : Hid (Below W2.heap.size W2 w3) := tuck (bAfter (Below.refl _ _).drew hb3))); obtain ⟨z3, d0, d1, d2, -⟩ := (HV2.out.below HB3.out).facts; clear hb3) | (go_at_call 40; (first | (have HBf : Hid (Below W2.heap.size W2 (w3.alloc (.cells #[.int .i64 0, .int .i64 0, .slice none 0 0] 25))) := tuck (bAfter HB3.out (below1 _ _)); have HBL := tuck (VarAt.new w3 0 0 (.slice none 0 0)); refine (HF.out _ _ g (bAfter HB.out HBf.out) HG.out (HST.out.below HBf.out)).mono ?_; rintro e w4 ⟨M4, hs4, sx, qs, rfl, hsx, hst4, hpass⟩; obtain ⟨xa, xc, rfl⟩ := hsx.form; clear hpass; have HB4 : Hid (Below w.heap.size w w4) := tuck (hs4.below (bAfter HB.out HBf.out) (bAfter HB.out HBf.out).size HM.out); obtain ⟨z4, f0, f1, f2, f3⟩ := VarAt.facts ((hs4.block w3.heap.size HBL.out.facts.1 (HNB.out _ HB3.out.size)).trans HBL.out : VarAt w3.heap.size 0 0 (.slice none 0 0) w4); clear hs4) | (have HBLX : Hid (VarAt W2.heap.size 0 0 (.slice none 0 0) w3) := HBL; have HBf := tuck HB3.out; refine (HF.out _ _ g (bAfter HB.out HBf.out) HG.out (HST.out.below HBf.out)).mono ?_; rintro e w4 ⟨M4, hs4, sx, qs, rfl, hsx, hst4, hpass⟩; obtain ⟨xa, xc, rfl⟩ := hsx.form; clear hpass; have HB4 : Hid (Below w.heap.size w w4) := tuck (hs4.below (bAfter HB.out HBf.out) (bAfter HB.out HBf.out).size HM.out); obtain ⟨z4, f0, f1, f2, f3⟩ := VarAt.facts ((hs4.block W2.heap.size HBL.out.facts.1 (HNB.out _ (Nat.le_refl _))).trans HBL.out : VarAt W2.heap.size 0 0 (.slice none 0 0) w4); clear hs4) | (have HBf := tuck HB3.out; refine (HF.out _ _ g (bAfter HB.out HBf.out) HG.out (HST.out.below HBf.out)).mono ?_; rintro e w4 ⟨M4, hs4, sx, qs, rfl, hsx, hst4, hpass⟩; obtain ⟨xa, xc, rfl⟩ := hsx.form; clear hpass; have HB4 : Hid (Below w.heap.size w w4) := tuck (hs4.below (bAfter HB.out HBf.out) (bAfter HB.out HBf.out).size HM.out); clear hs4))))
   all_goals go_wp2_with fail
   all_goals go_ret
   all_goals first | exact ⟨by rw [HFN.out]; rfl, bAfter HB4.out (below1 _ _)⟩ | exact ⟨by rw [HFN.out]; rfl, bSet3 HB4.out (Nat.le_trans HB.out.size (Nat.le_refl _)) _ _ _ _ _ _⟩ | exact ⟨by rw [HFN.out]; rfl, bSet3 HB4.out (Nat.le_trans HB.out.size HB3.out.size) _ _ _ _ _ _⟩
 ·rw [tr_not hv] at HV
  rw [show normalOf t = false from tr_not fun h => hv h.1]
  go_enter Tryz.func12, Tryz.ntmps12
  go_wp2_with (go_at_call 30; refine (HV.out _ (HS.out.below (below1 _ _))).mono ?_; rintro e w1 ⟨rfl, hb1⟩; obtain ⟨oc, of⟩ := old_cells hb1; have HB1 := tuck hb1; clear hb1)
  go_ret
  exact ⟨rfl, bAfter (below1 _ _) HB1.out⟩
end Go.Proofs.YtlnpebdmekccaaaGreat
namespace Go.Proofs.YtlnpebdmekccaaaGreat
open Go.RowKit
def NodeR (k : Int) (r : List (Tm × Value)) (w : World) (e : Ending) (w' : World) : Prop := Below w.heap.size w w' ∧ ∃ g c, e = .returned (.agg #[.int .i64 k, .int .i64 0, .slice (some ⟨g, 0, none⟩) r.length c]) ∧ w.heap.size < g ∧ ∀ j u, (cellsL r)[j]? = some u → w'.cell? ⟨g, j, none⟩ = some u
set_option maxRecDepth 100000 in
theorem nodeR_any (k : Int) (r : List (Tm × Value)) (w : World) (b o cap : Nat) (hne : r ≠ []) (hl : r.length ≤ 100000) (hcell : ∀ j u, (cellsL r)[j]? = some u → w.cell? ⟨b, o + j, none⟩ = some u) (hin : ∀ u ∈ cellsL r, u.oneCell' = true) :
  Calls Tryz.prog 87 #[.int .i64 k, .slice (some ⟨b, o, none⟩) r.length cap] w (NodeR k r w) := by
 obtain ⟨i0, hi, hz0, hz1, hz2⟩ := info_parts info_term'
 have HC := tuck hcell
 have HIN := tuck hin
 have HI := tuck hi
 have HZ0 := tuck hz0
 have HZ1 := tuck hz1
 have HZ2 := tuck hz2
 clear hcell hin hi hz0 hz1 hz2
 go_enter Tryz.func87, Tryz.ntmps87
 have hlt : b < w.heap.size := by
  cases r with
  | nil => exact absurd rfl hne
  | cons x r => exact World.block_lt_of_cell? w _ (HC.out 0 _ rfl)
 go_wp2_with (at_builtin; refine wpList_append_own _ rfl (.tmp 6) (.tmp 7) 23 rfl (w.heap.size + 1) 25 i0 _ 3 40 Tryz.underlying23 HI.out HZ0.out HZ1.out HZ2.out rfl (by decide) (.slice (some ⟨w.heap.size + 1, 0, none⟩) 0 0) 0 [] rfl ?own ⟨b, o, none⟩ r.length cap (cellsL r) rfl ?len ?cells ?one ?c63 ?cby ?cbase ?next)
 case own =>
  have := World.ownsRow_made (w.alloc (.cells #[.int .i64 0, .int .i64 0, .slice none 0 0] 25)) #[] 0 (base := w.heap.size + 1) (e := 25) (size := 3) (by simp) (by simp [maxLen]) rfl
  simpa using this
 case len => rw [cellsL_length]
 case cells =>
  intro j u hu
  have := HC.out j u hu
  have ea : (Addr.mk b o none).add j = ⟨b, o + j, none⟩ := by unfold Addr.add; split <;> simp_all
  rw [ea]
  exact ((below2 w _ _).cell (p := ⟨b, o + j, none⟩) hlt).trans this
 case one => exact HIN.out
 case c63 => simp [maxLen]; omega
 case cby => omega
 case cbase => simp
 case next =>
  intro v' w' hown hgrow _
  have hbel : Below w.heap.size w w' := (below2 w _ _).grown hgrow (by simp; omega) (fun g hg => by simp [Value.ownBlock] at hg; omega)
  have hz : w.heap.size < w'.heap.size := by have := hgrow.size; simp at this; omega
  have hc0 : ∀ i, w'.cell? ⟨w.heap.size, i, none⟩ = ((w.alloc (.cells #[.int .i64 0, .int .i64 0, .slice none 0 0] 25)).alloc (.cells #[] 25)).cell? ⟨w.heap.size, i, none⟩ := fun i =>
   World.cell?_of_block (hgrow.block w.heap.size (by simp; omega) (fun e => by simp [Value.ownBlock] at e))
  have hf0 : ∀ i, w'.frozen? ⟨w.heap.size, i, none⟩ = ((w.alloc (.cells #[.int .i64 0, .int .i64 0, .slice none 0 0] 25)).alloc (.cells #[] 25)).frozen? ⟨w.heap.size, i, none⟩ := fun i =>
   World.frozen?_of_block (hgrow.block w.heap.size (by simp; omega) (fun e => by simp [Value.ownBlock] at e))
  have hsl : ∃ g c, v' = .slice (some ⟨g, 0, none⟩) r.length c ∧ w.heap.size < g ∧ ∀ j u, (cellsL r)[j]? = some u → w'.cell? ⟨g, 0 + j, none⟩ = some u := by
   rcases hown.2 with ⟨_, h0⟩ | ⟨g, c, cur, rfl, hg, _⟩
   ·exact absurd (List.length_eq_zero_iff.1 h0) hne
   ·refine ⟨g, c, rfl, by omega, fun j u hu => ?_⟩
    rw [Nat.zero_add, hown.cellAt j (by have := (List.getElem?_eq_some_iff.1 hu).1; rw [cellsL_length] at this; exact this)]
    exact hu
  obtain ⟨g, c, rfl, hg, hsl⟩ := hsl
  have HSL := tuck hsl
  have HBEL := tuck hbel
  clear hsl hbel hown hgrow
  go_wp2_with fail
  refine bodyPost_ret (v := .agg #[.int .i64 k, .int .i64 0, .slice (some ⟨g, 0, none⟩) r.length c]) (by simp [results, Tryz.results87, go_sem, hc0]) rfl ?_
  have hb3 := bSet3 HBEL.out (Nat.le_refl w.heap.size) 0 1 2 (.int .i64 k) (.int .i64 0) (.slice (some ⟨g, 0, none⟩) r.length c)
  refine ⟨hb3, g, c, rfl, hg, fun j u hu => ?_⟩
  have hne3 : ∀ i, (⟨w.heap.size, i, none⟩ : Addr) ≠ ⟨g, 0 + j, none⟩ := fun i e => by injection e; omega
  have hq := HSL.out j u hu
  rw [show (⟨g, j, none⟩ : Addr) = ⟨g, 0 + j, none⟩ by rw [Nat.zero_add]]
  rw [World.cell?_setCell_other _ _ _ _ (hne3 _), World.cell?_setCell_other _ _ _ _ (hne3 _), World.cell?_setCell_other _ _ _ _ (hne3 _)]
  exact hq
theorem nodeX_any (k : Int) (r : List (Tm × Value)) (w : World) (R cap : Nat) (T : TypeId) (cs : Array Value) (X : Nat → Prop) (hX : ∀ i, X i → i < w.heap.size) (hne : r ≠ []) (hl : r.length ≤ 100000) (hb : w.heap[R]? = some (.cells cs T (0, 0))) (hc : cs.toList = cellsL r) (hx : ∀ x ∈ r, SlX w X x.1.kids x.2) :
  Calls Tryz.prog 87 #[.int .i64 k, .slice (some ⟨R, 0, none⟩) r.length cap] w fun e w' => Below w.heap.size w w' ∧ ∃ (a : Option Addr) (c : Nat), e = .returned (.agg #[.int .i64 k, .int .i64 0, .slice a r.length c]) ∧ SlX w' X (r.map (·.1)) (.slice a r.length c) := by
 obtain ⟨b1, b2, -⟩ := block_of_cells hb
 refine (nodeR_any k r w R 0 cap hne hl (fun j u hu => ?_) (cellsL_one fun x hx' => (hx x hx').sl)).mono ?_
 ·rw [Nat.zero_add, b2, ← Array.getElem?_toList, hc]; exact hu
 ·rintro e w' ⟨hb', g, c, rfl, hg, hrow⟩
  refine ⟨hb', some ⟨g, 0, none⟩, c, rfl, ?_⟩
  have hr : RowAt (mask w' X) 0 (r.map (·.1)) g 0 := RowAt.of_list (fun j u hu => mask_cell.2 ⟨fun h => by have := hX _ h; dsimp only at this; omega, by rw [Nat.zero_add]; exact hrow j u hu⟩) (fun x hx' => (hx x hx').below hb')
  refine ⟨_, c, g, 0, ?_, ?_, fun _ => ⟨rfl, Nat.zero_le _⟩, hr⟩
  ·rw [List.length_map]
  ·rw [List.length_map]; unfold maxLen; omega
theorem SlX.lay {w : World} {X : Nat → Prop} {l : List Tm} {v : Value} (h : SlX w X l v) (o : Obj) : SlX (w.alloc o) (fun i => X i ∨ i = w.heap.size) l v :=
 h.to fun p u hn hc => by
  have hp := World.block_lt_of_cell? w p hc
  exact ⟨fun hx => by
   rcases hx with hx | hx
   ·exact hn hx
   ·omega, ((below1 w o).cell hp).trans hc⟩
theorem SlX.put {w : World} {X : Nat → Prop} {l : List Tm} {v : Value} (h : SlX w X l v) {g : Nat} (hg : X g) (i j k : Nat) (x y z : Value) : SlX (((w.setCell ⟨g, i, none⟩ x).setCell ⟨g, j, none⟩ y).setCell ⟨g, k, none⟩ z) X l v :=
 ((h.set (q := ⟨g, i, none⟩) hg _).set (q := ⟨g, j, none⟩) hg _).set (q := ⟨g, k, none⟩) hg _
theorem SlX.less {w : World} {X Y : Nat → Prop} {l : List Tm} {v : Value} (h : SlX w Y l v) (hXY : ∀ i, X i → Y i) : SlX w X l v :=
 h.to fun _ _ hn hc => ⟨fun hx => hn (hXY _ hx), hc⟩
end Go.Proofs.YtlnpebdmekccaaaGreat
