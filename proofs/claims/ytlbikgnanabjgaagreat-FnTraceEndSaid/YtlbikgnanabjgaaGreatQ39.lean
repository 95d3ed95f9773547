/-
  WithS.
-/
import Derived.Test.YtlbikgnanabjgaaGreatQ15
import Derived.Test.YtlbikgnanabjgaaGreatQ18
import Derived.Test.YtlbikgnanabjgaaGreatQ33
import Derived.Test.YtlbikgnanabjgaaGreatQ35
namespace Go.Proofs.YtlbikgnanabjgaaGreat
open Go.RowKit
def OffY (X : Nat → Prop) (v : Value) : Nat → Prop := fun i => X i ∨ v.ownBlock = some i
def RowY (X : Nat → Prop) (base : Nat) (l : List Tm) (v : Value) (w : World) : Prop :=
 ∃ rs : List (Tm × Value), rs.map (·.1) = l ∧ w.ownsRow base 25 3 v l.length (cellsL rs) ∧ ∀ x ∈ rs, SlX w (OffY X v) x.1.kids x.2
theorem RowY.nil (X : Nat → Prop) (base : Nat) (w : World) : RowY X base [] (.slice none 0 0) w :=
 ⟨[], rfl, World.ownsRow_nil _ _ _ _, fun x h => (by cases h)⟩
theorem RowY.form {X : Nat → Prop} {base : Nat} {l : List Tm} {v : Value} {w : World} (h : RowY X base l v w) : ∃ a cap, v = .slice a l.length cap := by
 obtain ⟨rs, -, h, -⟩ := h
 rcases h.2 with ⟨h1, h2⟩ | ⟨g, cap, _, h1, _⟩
 ·exact ⟨none, 0, by rw [h1, h2]⟩
 ·exact ⟨_, _, h1⟩
theorem RowY.form' {X : Nat → Prop} {base q : Nat} {l : List Tm} {v : Value} {w : World} (h : RowY X base l v w) (hl : l.length = q) : ∃ a cap, v = .slice a q cap := by
 obtain ⟨a, cap, e⟩ := h.form
 exact ⟨a, cap, by rw [e, hl]⟩
theorem RowY.lt {X : Nat → Prop} {base : Nat} {l : List Tm} {v : Value} {w : World} (h : RowY X base l v w) : ∀ g, v.ownBlock = some g → base ≤ g ∧ g < w.heap.size := by
 obtain ⟨rs, -, h, -⟩ := h
 exact h.lt
theorem RowY.below {X : Nat → Prop} {base : Nat} {l : List Tm} {v : Value} {w w' : World} (h : RowY X base l v w) (hb : Below w.heap.size w w') : RowY X base l v w' := by
 obtain ⟨rs, h1, h2, h3⟩ := h
 exact ⟨rs, h1, h2.kept (grown_none hb) (by cases v.ownBlock <;> simp), fun x hx => (h3 x hx).below hb⟩
theorem RowY.setCell {X : Nat → Prop} {base : Nat} {l : List Tm} {v : Value} {w : World} (h : RowY X base l v w) {p : Addr} (hz : X p.block) (hp : p.block < base) (u : Value) : RowY X base l v (w.setCell p u) := by
 have hlt := h.lt
 obtain ⟨rs, h1, h2, h3⟩ := h
 refine ⟨rs, h1, ⟨h2.1, ?_⟩, fun x hx => (h3 x hx).set (Or.inl hz) u⟩
 rcases h2.2 with h | ⟨g, cap, cur, e, r1, r2, r3⟩
 ·exact Or.inl h
 ·refine Or.inr ⟨g, cap, cur, e, r1, (Below.heap_setCell w p u g (fun e' => ?_)).trans r2, r3⟩
  have := (hlt g (by rw [e]; rfl)).1
  omega
theorem RowY.push {X : Nat → Prop} {base : Nat} {l : List Tm} {v v' : Value} {W w1 : World} {t : Tm} {s : Value} (h : RowY X base l v W) (hs : SlX W (OffY X v) t.kids s)
  (hown : ∀ xs, W.ownsRow base 25 3 v l.length xs → w1.ownsRow base 25 3 v' (l.length + 1) (xs ++ [.int .i64 t.kind, .int .i64 t.num, s])) (hgrow : W.grownBy w1 v.ownBlock) (hat : v'.ownBlock = v.ownBlock ∨ v'.ownBlock = some W.heap.size) :
  RowY X base (l ++ [t]) v' w1 := by
 obtain ⟨rs, h1, h2, h3⟩ := h
 have key : ∀ (x : List Tm) (u : Value), SlX W (OffY X v) x u → SlX w1 (OffY X v') x u := fun x u hx => hx.to fun p y hn hc => by
  have hp := World.block_lt_of_cell? W p hc
  refine ⟨?_, (World.cell?_of_block (hgrow.block p.block hp fun e => hn (Or.inr e.symm))).trans hc⟩
  rintro (h | h)
  ·exact hn (Or.inl h)
  ·rcases hat with hat | hat
   ·exact hn (Or.inr (hat ▸ h))
   ·rw [hat] at h
    simp at h
    omega
 refine ⟨rs ++ [(t, s)], by simp [h1], ?_, fun x hx => ?_⟩
 ·have := hown _ h2
  rw [cellsL_append, List.length_append]
  simpa [cellsL] using this
 ·rcases List.mem_append.1 hx with hx | hx
  ·exact key _ _ (h3 x hx)
  ·simp only [List.mem_singleton] at hx
   subst hx
   exact key _ _ hs
theorem RowY.grow {X : Nat → Prop} {base q : Nat} {l : List Tm} {v : Value} {W : World} (h : RowY X base l v W) (hl : l.length = q) : ∃ xs, W.ownsRow base 25 3 v q xs ∧
  ∀ (v' s : Value) (w1 : World) (t : Tm), SlX W (OffY X v) t.kids s → w1.ownsRow base 25 3 v' (q + 1) (xs ++ [.int .i64 t.kind, .int .i64 t.num, s]) →
   W.grownBy w1 v.ownBlock → (v'.ownBlock = v.ownBlock ∨ v'.ownBlock = some W.heap.size) → RowY X base (l ++ [t]) v' w1 := by
 subst hl
 have h0 := h
 obtain ⟨rs, h1, h2, h3⟩ := h
 refine ⟨_, h2, fun v' s w1 t a1 a4 a5 a6 => h0.push a1 (fun xs hx => ?_) a5 a6⟩
 have e : xs = cellsL rs := by
  rcases hx.2 with ⟨e1, e2⟩ | ⟨g, cap, cur, e1, _, r1, _, _, _, r2⟩
  ·have n1 := hx.1
   have n2 := h2.1
   rw [e2] at n1 n2
   exact (List.length_eq_zero_iff.1 (by simpa using n1)).trans (List.length_eq_zero_iff.1 (by simpa using n2)).symm
  ·rcases h2.2 with ⟨f1, f2⟩ | ⟨g', cap', cur', f1, _, q1, _, _, _, q2⟩
   ·rw [e1] at f1
    cases f1
   ·rw [e1] at f1
    simp only [Value.slice.injEq, Option.some.injEq, Addr.mk.injEq, and_true, true_and] at f1
    obtain ⟨rfl, rfl⟩ := f1
    rw [r1] at q1
    cases q1
    rw [← r2, ← q2]
 rw [e]
 exact a4
theorem RowY.done {X : Nat → Prop} {base : Nat} {l : List Tm} {v : Value} {w : World} (h : RowY X base l v w) (hl : l.length ≤ maxLen) (hX : ∀ i, X i → i < base) : SlX w X l v := by
 obtain ⟨rs, h1, h2, h3⟩ := h
 have hrow := h2
 rcases h2.2 with ⟨e1, e2⟩ | ⟨g, cap, cur, rfl, r1, r2, r3⟩
 ·have : l = [] := List.length_eq_zero_iff.1 e2
  subst this
  subst e1
  exact SlX.nil _ _ _ _
 ·obtain ⟨b1, b2, b3⟩ := block_of_cells r2
  have hr : RowAt (mask w X) 0 (rs.map (·.1)) g 0 := by
   refine RowAt.of_list (fun j u hu => ?_) fun x hx => (h3 x hx).to fun p y hn hc => ⟨fun hz => hn (Or.inl hz), hc⟩
   have := hrow.cells (g := g) rfl j u hu
   have hadd : (⟨g, 0, none⟩ : Addr).add j = ⟨g, j, none⟩ := by unfold Addr.add; split <;> simp_all
   rw [hadd] at this
   rw [Nat.zero_add]
   exact mask_cell.2 ⟨fun hz => by have := hX _ hz; dsimp only at this; omega, this⟩
  rw [h1] at hr
  exact ⟨_, _, g, 0, rfl, hl, fun _ => ⟨rfl, Nat.zero_le _⟩, hr⟩
end Go.Proofs.YtlbikgnanabjgaaGreat
namespace Go.Proofs.YtlbikgnanabjgaaGreat
open Go.RowKit
def WithOff (B : Nat) (w : World) : Nat → Prop := fun i => i < B ∨ (w.heap.size ≤ i ∧ i < w.heap.size + 4)
set_option maxRecDepth 100000 in
set_option maxHeartbeats 4000000 in
theorem lwith_any (B : Nat) (l : List Tm) (k n : Int) (i : Nat) (hi : i < l.length) (K : Tm) (w : World) (hB : B ≤ w.heap.size) (v kv : Value) (hl4 : l.length ≤ 4) (hsz : sizes l ≤ 1000000) (hin : SlIn w 0 l v) (hk : SlIn w B K.kids kv) :
  Calls Tryz.prog 52 #[.agg #[.int .i64 k, .int .i64 n, v], .int .i64 i, .agg #[.int .i64 K.kind, .int .i64 K.num, kv]] w (BPost B w (.mk k n (l.set i K))) := by
 obtain ⟨a, cap, bb, o, rfl, hlm, hp, hc⟩ := hin.open
 obtain ⟨ka, kc, rfl⟩ := hk.form
 have HCOPY : Hid (∀ q (hq : q < l.length) (w' : World) (s' : Value), SlIn w' 0 l[q].kids s' → Calls Tryz.prog 17 #[.agg #[.int .i64 l[q].kind, .int .i64 l[q].num, s']] w' (MadePost w' l[q])) := tuck fun q hq w' s' h => by
  have := lcopy_any l[q].kids l[q].kind l[q].num w' s' (by have := kids_get_lt l q hq; omega) h
  rwa [Tm.eta] at this
 have HP := tuck hp
 have HC := tuck hc
 have HKV : Hid (∀ (W : World) (Y : Nat → Prop), Below w.heap.size w W → (∀ i, i < w.heap.size → B ≤ i → ¬ Y i) → SlX W Y K.kids (.slice ka K.kids.length kc)) := tuck fun W Y h hY => by
  have h1 : SlX w (fun i => i < B) K.kids (.slice ka K.kids.length kc) := SlX.of_sl hk (fun _ h => h)
  exact h1.to fun p u hn hc => ⟨hY _ (World.block_lt_of_cell? w p hc) (Nat.not_lt.1 hn), (h.cell (World.block_lt_of_cell? w p hc)).trans hc⟩
 have HPOST : Hid (∀ w' (a' : Option Addr) (c' : Nat), Below w.heap.size w w' → SlIn w' B (l.set i K) (.slice a' l.length c') → BPost B w (.mk k n (l.set i K)) (.returned (.agg #[.int .i64 k, .int .i64 n, .slice a' l.length c'])) w') := tuck fun w' a' c' h1 h2 => ⟨h1, a', c', by show _ = Ending.returned (.agg #[.int .i64 k, .int .i64 n, .slice a' (l.set i K).length c']); rw [List.length_set], by show SlIn w' B (l.set i K) (.slice a' (l.set i K).length c'); rw [List.length_set]; exact h2⟩
 generalize BPost B w (.mk k n (l.set i K)) = post at *
 have HBB := tuck hB
 clear hp hc hk hsz hin hB
 unfold maxLen at hlm
 go_enter Tryz.func52, Tryz.ntmps52
 go_wp2_with fail
 have HB0 := tuck ((below3 w (.cells #[.int .i64 k, .int .i64 n, .slice a l.length cap] 25) (.cells #[.int .i64 K.kind, .int .i64 K.num, .slice ka K.kids.length kc] 25) (.cells #[.int .i64 0, .int .i64 0, .slice none 0 0] 25)).alloc (by simp; omega) (.cells #[.int .i64 k, .int .i64 n, .slice none 0 0] 25))
 have HV0 := tuck ((((VarAt.new w k n (.slice a l.length cap)).below (below1 _ (.cells #[.int .i64 K.kind, .int .i64 K.num, .slice ka K.kids.length kc] 25))).below (below1 _ (.cells #[.int .i64 0, .int .i64 0, .slice none 0 0] 25))).below (below1 _ (.cells #[.int .i64 k, .int .i64 n, .slice none 0 0] 25)))
 have HVK := tuck (((var_new1 w (.cells #[.int .i64 k, .int .i64 n, .slice a l.length cap] 25) K.kind K.num (.slice ka K.kids.length kc)).below (below1 _ (.cells #[.int .i64 0, .int .i64 0, .slice none 0 0] 25))).below (below1 _ (.cells #[.int .i64 k, .int .i64 n, .slice none 0 0] 25)))
 have HVR := tuck ((var_new2 w (.cells #[.int .i64 k, .int .i64 n, .slice a l.length cap] 25) (.cells #[.int .i64 K.kind, .int .i64 K.num, .slice ka K.kids.length kc] 25) 0 0 (.slice none 0 0)).below (below1 _ (.cells #[.int .i64 k, .int .i64 n, .slice none 0 0] 25)))
 have HVO := tuck (var_new3 w (.cells #[.int .i64 k, .int .i64 n, .slice a l.length cap] 25) (.cells #[.int .i64 K.kind, .int .i64 K.num, .slice ka K.kids.length kc] 25) (.cells #[.int .i64 0, .int .i64 0, .slice none 0 0] 25) k n (.slice none 0 0))
 generalize ((((w.alloc (.cells #[.int .i64 k, .int .i64 n, .slice a l.length cap] 25)).alloc (.cells #[.int .i64 K.kind, .int .i64 K.num, .slice ka K.kids.length kc] 25)).alloc (.cells #[.int .i64 0, .int .i64 0, .slice none 0 0] 25)).alloc (.cells #[.int .i64 k, .int .i64 n, .slice none 0 0] 25)) = W0 at *
 go_loopw [8] (fun j wr => ∃ (q : Nat) (pre : List Tm) (vl : Value), q ≤ l.length ∧ pre.length = q ∧ pre = (l.set i K).take q ∧ j = .int .i64 q ∧ Below w.heap.size w wr ∧ VarAt w.heap.size k n (.slice a l.length cap) wr ∧ VarAt (w.heap.size + 1) K.kind K.num (.slice ka K.kids.length kc) wr ∧ VarAt (w.heap.size + 1 + 1) 0 0 (.slice none 0 0) wr ∧ VarAt (w.heap.size + 1 + 1 + 1) k n vl wr ∧ RowY (WithOff B w) (w.heap.size + 1 + 1 + 1 + 1) pre vl wr) (fun j _ => l.length - (intOf j).toNat)
 case atStart => exact ⟨0, [], _, Nat.zero_le _, rfl, rfl, rfl, HB0.out, HV0.out, HVK.out, HVR.out, HVO.out, RowY.nil _ _ _⟩
 case round =>
  obtain ⟨q, pre, vl, hq, hpre, hpt, rfl, hb, hv0, hvk, hvr, hvo, hrow⟩ := hrel
  have HB := tuck hb
  have HV := tuck hv0
  have HK := tuck hvk
  have HR := tuck hvr
  have HO := tuck hvo
  have HROW := tuck hrow
  have HPT := tuck hpt
  have HPRE := tuck hpre
  clear hb hv0 hvk hvr hvo hrow hpt HB0 HV0 HVK HVR HVO
  obtain ⟨va, vc, rfl⟩ := HROW.out.form' hpre
  clear hpre
  have HLT := tuck HROW.out.lt
  have hfar : ∀ G, G ≤ w.heap.size + 1 + 1 + 1 → some G ≠ (Value.slice va q vc).ownBlock := fun G hG e => by have := (HLT.out _ e.symm).1; omega
  have HFAR := tuck hfar
  obtain ⟨z3, a0, a1, a2, a3f⟩ := HV.out.facts
  obtain ⟨z7, c70, c71, c72, c7f⟩ := HO.out.facts
  by_cases hlt : q < l.length
  ·have hlti : ((q : Int) < (l.length : Int)) := by omega
   have hqi : (0 : Int) ≤ (q : Int) := by omega
   have HTK := tuck (List.take_succ_eq_append_getElem (l := l.set i K) (i := q) (by rw [List.length_set]; exact hlt))
   have hq4 : q + 1 ≤ maxLen := by unfold maxLen; omega
   have hqb : (q + 1) * 40 ≤ 140737488355328 := by omega
   obtain ⟨i0, hi0, hz0, hz1, hz2⟩ := info_parts info_termG
   by_cases hqk : q = i
   ·have hqe : ((q : Int) == (i : Int)) = true := by simp [hqk]
    have HGET : Hid ((l.set i K)[q]'(by rw [List.length_set]; exact hlt) = K) := tuck (by subst hqk; simp)
    clear hqk
    obtain ⟨zk, k0, k1, k2, kf⟩ := HK.out.facts
    have HI0 := tuck hi0
    have HI1 := tuck hz0
    have HI2 := tuck hz1
    have HI3 := tuck hz2
    clear hi0 hz0 hz1 hz2
    have hbk := below1 wr (.cells #[.int .i64 K.kind, .int .i64 K.num, .slice ka K.kids.length kc] 25)
    have HBK := tuck hbk
    have HOK := tuck (HO.out.below hbk)
    have HRK := tuck (HROW.out.below hbk)
    obtain ⟨xs, hox, hpush⟩ := HRK.out.grow HPRE.out
    have HOX := tuck hox
    have HPUSH := tuck hpush
    clear hox hpush hbk
    go_wp2_with (at_builtin; refine wpList_append_lies _ rfl _ _ _ rfl (w.heap.size + 1 + 1 + 1 + 1) 25 i0 _ 3 40 Tryz.underlying23 HI0.out HI1.out HI2.out HI3.out rfl (by omega) _ _ _ rfl HOX.out ⟨wr.heap.size, 0, none⟩ 1 1 [.int .i64 K.kind, .int .i64 K.num, .slice ka K.kids.length kc] rfl rfl ?news ?one (by omega) hq4 hqb ?base (wr.heap.size + 1) ?size ?next)
    case news => exact World.news_of_block (cs := #[.int .i64 K.kind, .int .i64 K.num, .slice ka K.kids.length kc]) (t := 25) (fr := (0, 0)) (heap_new wr _)
    case one => simp [Value.oneCell']
    case base => simp; omega
    case size => simp
    case next =>
     intro gg gcap w4 hown4 hgrow hat hlt4
     obtain ⟨k0, k1, k2, k3, kf⟩ := (HOK.out.grown hgrow (HFAR.out _ (Nat.le_refl _))).facts
     have HGR := tuck hgrow
     have HOWN := tuck hown4
     have HAT := tuck hat
     clear hgrow hown4 hat
     go_wp2_with fail
     go_roundw
     case rel =>
      refine ⟨q + 1, pre ++ [K], .slice (some ⟨gg, 0, none⟩) (q + 1) gcap, by omega, by rw [List.length_append, HPRE.out]; rfl, by rw [HTK.out, HPT.out, HGET.out], by go_num, ?_, ?_, ?_, ?_, ?_, ?_⟩
      ·exact ((bAfter HB.out HBK.out).grown HGR.out (bAfter HB.out HBK.out).size (fun g hg => by have := (HLT.out g hg).1; omega)).setCell (by show w.heap.size ≤ w.heap.size + 1 + 1 + 1; omega) _
      ·exact ((HV.out.below HBK.out).grown HGR.out (HFAR.out _ (by omega))).far (by show w.heap.size ≠ w.heap.size + 1 + 1 + 1; omega) _
      ·exact ((HK.out.below HBK.out).grown HGR.out (HFAR.out _ (by omega))).far (by show w.heap.size + 1 ≠ w.heap.size + 1 + 1 + 1; omega) _
      ·exact ((HR.out.below HBK.out).grown HGR.out (HFAR.out _ (by omega))).far (by show w.heap.size + 1 + 1 ≠ w.heap.size + 1 + 1 + 1; omega) _
      ·exact (HOK.out.grown HGR.out (HFAR.out _ (Nat.le_refl _))).set2
      ·refine (HPUSH.out _ _ w4 K (HKV.out _ _ (bAfter HB.out HBK.out) fun j h1 h2 => ?_) HOWN.out HGR.out (HAT.out.imp (fun h => h.symm) (fun h => by rw [h]; simp [Value.ownBlock]))).setCell (Or.inr ⟨by show w.heap.size ≤ w.heap.size + 1 + 1 + 1; omega, by show w.heap.size + 1 + 1 + 1 < _; omega⟩) (by show w.heap.size + 1 + 1 + 1 < w.heap.size + 1 + 1 + 1 + 1; omega) _
       rintro ((h | h) | h)
       ·omega
       ·omega
       ·have := (HLT.out j h).1
        omega
     case measure => simp [intOf]; omega
   ·have hqe : ((q : Int) == (i : Int)) = false := by simp; omega
    have HGET : Hid ((l.set i K)[q]'(by rw [List.length_set]; exact hlt) = l[q]) := tuck (List.getElem_set_ne (fun e => hqk e.symm) _)
    obtain ⟨rfl, _, hbw⟩ := HP.out (by intro e; rw [e] at hlt; simp at hlt)
    obtain ⟨s, c0, c1, c2, hs⟩ := HC.out q hlt
    obtain ⟨sa, sc, rfl⟩ := hs.form
    replace c0 := (HB.out.cell (p := ⟨bb, o + q * 3, none⟩) hbw).trans c0
    replace c1 := (HB.out.cell (p := ⟨bb, o + q * 3 + 1, none⟩) hbw).trans c1
    replace c2 := (HB.out.cell (p := ⟨bb, o + q * 3 + 2, none⟩) hbw).trans c2
    have hbr : bb < wr.heap.size := World.block_lt_of_cell? wr _ c0
    have HS2 := tuck hs
    have HIQ := tuck (fun w' s' (h' : SlIn w' 0 l[q].kids s') => HCOPY.out q hlt w' s' h')
    have HB3 : Hid (bb ≠ w.heap.size + 1 + 1 + 1 ∧ some (w.heap.size + 1 + 1 + 1) ≠ (Value.slice va q vc).ownBlock ∧ some (w.heap.size) ≠ (Value.slice va q vc).ownBlock ∧ some bb ≠ (Value.slice va q vc).ownBlock ∧ True) := ⟨by omega, HFAR.out _ (Nat.le_refl _), HFAR.out _ (by omega), HFAR.out _ (by omega), trivial⟩
    clear hs HCOPY hqk hfar
    generalize l[q] = T at *
    have hx0 : (g3x wr (w.heap.size) bb (o + q * 3) k (.slice (some ⟨bb, o, none⟩) l.length cap) (.slice sa T.kids.length sc) T.kind T.num) := ⟨⟨z3, hbr⟩, a0, a2, c0, c1, c2⟩
    unfold g3x at hx0
    have HX0 := tuck hx0
    clear hx0
    go_wp2_with fail
    have HT12 : ∀ w' : World, (fun w' : World => w'.cell? ⟨w.heap.size + 1 + 1 + 1, 2, none⟩ = some (.slice va q vc) ∧ ((w.heap.size < w'.heap.size ∧ bb < w'.heap.size) ∧ w'.cell? ⟨w.heap.size, 0, none⟩ = some (.int .i64 k) ∧ w'.cell? ⟨w.heap.size, 2, none⟩ = some (.slice (some ⟨bb, o, none⟩) l.length cap) ∧ w'.cell? ⟨bb, o + q * 3, none⟩ = some (.int .i64 T.kind) ∧ w'.cell? ⟨bb, o + q * 3 + 1, none⟩ = some (.int .i64 T.num) ∧ w'.cell? ⟨bb, o + q * 3 + 2, none⟩ = some (.slice sa T.kids.length sc))) w' → (fun w' : World => (w.heap.size < w'.heap.size ∧ bb < w'.heap.size) ∧ w'.cell? ⟨w.heap.size, 0, none⟩ = some (.int .i64 k) ∧ w'.cell? ⟨w.heap.size, 2, none⟩ = some (.slice (some ⟨bb, o, none⟩) l.length cap) ∧ w'.cell? ⟨bb, o + q * 3, none⟩ = some (.int .i64 T.kind) ∧ w'.cell? ⟨bb, o + q * 3 + 1, none⟩ = some (.int .i64 T.num) ∧ w'.cell? ⟨bb, o + q * 3 + 2, none⟩ = some (.slice sa T.kids.length sc)) w' := fun w' h => h.2
    refine AnyTwo.begin (fun w' : World => w'.cell? ⟨w.heap.size + 1 + 1 + 1, 2, none⟩ = some (.slice va q vc) ∧ ((w.heap.size < w'.heap.size ∧ bb < w'.heap.size) ∧ w'.cell? ⟨w.heap.size, 0, none⟩ = some (.int .i64 k) ∧ w'.cell? ⟨w.heap.size, 2, none⟩ = some (.slice (some ⟨bb, o, none⟩) l.length cap) ∧ w'.cell? ⟨bb, o + q * 3, none⟩ = some (.int .i64 T.kind) ∧ w'.cell? ⟨bb, o + q * 3 + 1, none⟩ = some (.int .i64 T.num) ∧ w'.cell? ⟨bb, o + q * 3 + 2, none⟩ = some (.slice sa T.kids.length sc))) (fun w' : World => (w.heap.size < w'.heap.size ∧ bb < w'.heap.size) ∧ w'.cell? ⟨w.heap.size, 0, none⟩ = some (.int .i64 k) ∧ w'.cell? ⟨w.heap.size, 2, none⟩ = some (.slice (some ⟨bb, o, none⟩) l.length cap) ∧ w'.cell? ⟨bb, o + q * 3, none⟩ = some (.int .i64 T.kind) ∧ w'.cell? ⟨bb, o + q * 3 + 1, none⟩ = some (.int .i64 T.num) ∧ w'.cell? ⟨bb, o + q * 3 + 2, none⟩ = some (.slice sa T.kids.length sc)) 9 (by kernel_rfl) ?_
    have hS1 : (fun w' : World => w'.cell? ⟨w.heap.size + 1 + 1 + 1, 2, none⟩ = some (.slice va q vc) ∧ ((w.heap.size < w'.heap.size ∧ bb < w'.heap.size) ∧ w'.cell? ⟨w.heap.size, 0, none⟩ = some (.int .i64 k) ∧ w'.cell? ⟨w.heap.size, 2, none⟩ = some (.slice (some ⟨bb, o, none⟩) l.length cap) ∧ w'.cell? ⟨bb, o + q * 3, none⟩ = some (.int .i64 T.kind) ∧ w'.cell? ⟨bb, o + q * 3 + 1, none⟩ = some (.int .i64 T.num) ∧ w'.cell? ⟨bb, o + q * 3 + 2, none⟩ = some (.slice sa T.kids.length sc))) wr.drew := ⟨c72, HX0.out⟩
    refine AnyTwo.tk HT12 (i := 0) (oi := ⟨some 30, _, _, _, _, _⟩) rfl (ph_one (by kernel_rfl) hS1) ?_
    try simp only [pts]
    refine AnyTwo.take (i := 1) (oi := ⟨some 31, _, _, _, _, _⟩) (v := ?va1) rfl (by kernel_rfl) (by kernel_rfl) (by decide +kernel) (by kernel_rfl) (by rfl) (by kernel_rfl) (fun _ _ _ h => h) (Or.inl ⟨by rfl, ?ya1⟩) hS1 ?ra1
    case ya1 => (intro w hSw; (try dsimp only at hSw); go_simp; try (with_reducible rfl))
    try simp only [pts]
    refine AnyTwo.tk HT12 (i := 2) (oi := ⟨some 32, _, _, _, _, _⟩) rfl (ph_one (by kernel_rfl) hS1) ?_
    try simp only [pts]
    refine AnyTwo.tk HT12 (i := 3) (oi := ⟨some 33, _, _, _, _, _⟩) rfl (ph_one (by kernel_rfl) hS1) ?_
    try simp only [pts]
    refine AnyTwo.tk HT12 (i := 4) (oi := ⟨some 34, _, _, _, _, _⟩) rfl (ph_one (by kernel_rfl) hS1) ?_
    try simp only [pts]
    refine AnyTwo.tk HT12 (i := 5) (oi := ⟨some 35, _, _, _, _, _⟩) rfl (ph_one (by kernel_rfl) hS1) ?_
    try simp only [pts]
    refine AnyTwo.tk HT12 (i := 6) (oi := ⟨some 36, _, _, _, _, _⟩) rfl (ph_one (by kernel_rfl) hS1) ?_
    try simp only [pts]
    refine AnyTwo.step (i := 7) (o := ⟨some 37, _, _, _, _, _⟩) (by kernel_rfl) rfl (fun K hK => ?_)
    go_simp
    refine (HIQ.out _ _ (HS2.out.below (bAfter HB.out (Below.refl _ _).drew))).mono ?_
    rintro e3 w3 ⟨hb3, tv, rfl, ts, F2, rfl, hs2, hn2, hF2⟩
    obtain ⟨ta, tc, rfl⟩ := hs2.form
    have hbd := bAfter (Below.refl wr.heap.size wr).drew hb3
    have HX3 := tuck (hold2_below HX0.out hbd)
    have HBD := tuck hbd
    have HV7 := tuck (HO.out.below hbd)
    obtain ⟨z7', d70, d71, d72, d7f⟩ := HV7.out.facts
    have HX4 := tuck (hold2_below HX3.out (below1 w3 (.cells #[.int .i64 T.kind, .int .i64 T.num, .slice ta T.kids.length tc] 25)))
    have HRG4 := tuck ((HROW.out.below hbd).below (below1 w3 (.cells #[.int .i64 T.kind, .int .i64 T.num, .slice ta T.kids.length tc] 25)))
    obtain ⟨xs, hox, hpush⟩ := HRG4.out.grow HPRE.out
    have HOX := tuck hox
    have HPUSH := tuck hpush
    have HS3 := tuck ((hs2.sl fun g hg => (hF2 g hg).1).below (below1 w3 (.cells #[.int .i64 T.kind, .int .i64 T.num, .slice ta T.kids.length tc] 25)))
    have d72' := ((below1 w3 (.cells #[.int .i64 T.kind, .int .i64 T.num, .slice ta T.kids.length tc] 25)).cell (p := ⟨w.heap.size + 1 + 1 + 1, 2, none⟩) z7').trans d72
    have HZ4 : Hid (w.heap.size + 1 + 1 + 1 < (w3.alloc (.cells #[.int .i64 T.kind, .int .i64 T.num, .slice ta T.kids.length tc] 25)).heap.size) := tuck (Nat.lt_of_lt_of_le z7' (below1 w3 _).size)
    clear hox hpush hs2 hn2 hF2 hbd hb3
    have hS1' := And.intro d72 HX3.out
    refine hK.out _ _ (ph_one (by kernel_rfl) hS1') ?_
    clear hK K hS1
    have hS1 := hS1'
    clear hS1'
    try simp only [pts]
    refine AnyTwo.step (i := 8) (o := ⟨some 38, _, _, _, _, _⟩) (by kernel_rfl) rfl (fun K hK => ?_)
    go_simp
    have hS1' := And.intro d72' HX4.out
    refine hK.out _ _ (ph_one (by kernel_rfl) hS1') ?_
    clear hK K hS1
    have hS1 := hS1'
    clear hS1'
    try simp only [pts]
    refine AnyTwo.step (i := 9) (o := ⟨some 39, _, _, _, _, _⟩) (by kernel_rfl) rfl (fun K hK => ?_)
    refine step_append_lies _ (by rfl) _ _ _ (by rfl) (w.heap.size + 1 + 1 + 1 + 1) 25 i0 _ 3 40 Tryz.underlying23 hi0 hz0 hz1 hz2 rfl (by omega) _ _ _ (by rfl) HOX.out ⟨w3.heap.size, 0, none⟩ 1 1 [.int .i64 T.kind, .int .i64 T.num, .slice ta T.kids.length tc] (by rfl) (by rfl) (World.news_of_block (cs := #[.int .i64 T.kind, .int .i64 T.num, .slice ta T.kids.length tc]) (t := 25) (fr := (0, 0)) (heap_new w3 _)) (by simp [Value.oneCell']) (by omega) hq4 hqb (by simp; omega) (w3.heap.size + 1) (by simp) ?_
    intro gg gcap w4 hown4 hgrow hat hlt4
    have k70 := (hgrow.cell_far ⟨w.heap.size + 1 + 1 + 1, 2, none⟩ HZ4.out HB3.out.2.1).trans d72'
    have k7f := (hgrow.frozen_far ⟨w.heap.size + 1 + 1 + 1, 2, none⟩ HZ4.out HB3.out.2.1).trans (((below1 w3 _).frozen (p := ⟨w.heap.size + 1 + 1 + 1, 2, none⟩) z7').trans (d7f 2))
    have HX5 := tuck (hold2_grown HX4.out hgrow ⟨HB3.out.2.2.1, HB3.out.2.2.2.1⟩)
    refine hK.out _ _ (ph_end (by kernel_rfl) (HX5.out)) ?_
    clear hK K
    try simp only [pts]
    refine AnyTwo.tk HT12 (i := 10) (oi := ⟨some 40, _, _, _, _, _⟩) rfl (ph_end (by kernel_rfl) HX5.out) ?_
    try simp only [pts]
    refine AnyTwo.step (i := 11) (o := ⟨none, _, _, _, _, _⟩) (by kernel_rfl) rfl (fun K hK => ?_)
    go_simp
    refine hK.out _ _ (ph_end (by kernel_rfl) (hold2_set HX5.out (p := ⟨w.heap.size + 1 + 1 + 1, 2, none⟩) (show w.heap.size + 1 + 1 + 1 ≠ w.heap.size by omega) (Ne.symm HB3.out.1))) ?_
    clear hK K
    try simp only [pts]
    refine AnyTwo.done (by kernel_rfl) ?_ _
    have HZ3 : Hid (wr.heap.size ≤ w3.heap.size) := HBD.out.size
    clear d70 d71 d72 d7f z7' d72' hS1 HT12 k70 k7f
    go_wp2_with fail
    go_roundw
    case rel =>
     have hb4 : Below wr.heap.size wr (w3.alloc (.cells #[.int .i64 T.kind, .int .i64 T.num, .slice ta T.kids.length tc] 25)) := bAfter HBD.out (below1 _ _)
     have hz3 := HZ3.out
     refine ⟨q + 1, pre ++ [T], .slice (some ⟨gg, 0, none⟩) (q + 1) gcap, by omega, by rw [List.length_append, HPRE.out]; rfl, by rw [HTK.out, HPT.out, HGET.out], by go_num, ?_, ?_, ?_, ?_, ?_, ?_⟩
     ·exact ((bAfter HB.out hb4).grown hgrow (bAfter HB.out hb4).size (fun g hg => by have := (HLT.out g hg).1; omega)).setCell (by show w.heap.size ≤ w.heap.size + 1 + 1 + 1; omega) _
     ·exact ((HV.out.below hb4).grown hgrow (HFAR.out _ (by omega))).far (by show w.heap.size ≠ w.heap.size + 1 + 1 + 1; omega) _
     ·exact ((HK.out.below hb4).grown hgrow (HFAR.out _ (by omega))).far (by show w.heap.size + 1 ≠ w.heap.size + 1 + 1 + 1; omega) _
     ·exact ((HR.out.below hb4).grown hgrow (HFAR.out _ (by omega))).far (by show w.heap.size + 1 + 1 ≠ w.heap.size + 1 + 1 + 1; omega) _
     ·exact ((HO.out.below hb4).grown hgrow (HFAR.out _ (Nat.le_refl _))).set2
     ·refine (HPUSH.out _ _ w4 T (SlX.of_sl (B := wr.heap.size) HS3.out (fun j hj => ?_)) hown4 hgrow (hat.imp (fun h => h.symm) (fun h => by rw [h]; simp [Value.ownBlock]))).setCell (Or.inr ⟨by show w.heap.size ≤ w.heap.size + 1 + 1 + 1; omega, by show w.heap.size + 1 + 1 + 1 < _; omega⟩) (by show w.heap.size + 1 + 1 + 1 < w.heap.size + 1 + 1 + 1 + 1; omega) _
      have := HBB.out
      rcases hj with (h | h) | h
      ·omega
      ·omega
      ·exact (HLT.out j h).2
    case measure => simp [intOf]; omega
  ·have hge2 : ¬ ((q : Int) < (l.length : Int)) := by omega
   have e : q = l.length := by omega
   have hpl : pre = l.set i K := by rw [HPT.out, e]; exact List.take_of_length_le (by rw [List.length_set]; exact Nat.le_refl _)
   have hsl : SlX wr (WithOff B w) (l.set i K) (.slice va l.length vc) := by
    have := HROW.out.done (by rw [HPRE.out]; unfold maxLen; omega) (fun j hj => by
     have := HBB.out
     rcases hj with h | h <;> omega)
    rw [hpl, e] at this
    exact this
   have HSL := tuck hsl
   obtain ⟨zr, r0, r1, r2, rf⟩ := HR.out.facts
   subst e
   clear hsl hpl HPRE HPT
   go_wp2_with fail
   refine bodyPost_ret (v := .agg #[.int .i64 k, .int .i64 n, .slice va l.length vc]) (by simp [results, Tryz.results52, go_sem, *]) rfl (HPOST.out _ _ _ ?_ ?_)
   ·exact bSet3 HB.out (by omega) _ _ _ _ _ _
   ·exact SlX.from (SlX.less (X := fun j => j < B) (HSL.out.put (g := w.heap.size + 1 + 1) (Or.inr ⟨by omega, by omega⟩) _ _ _ _ _ _) fun j h => Or.inl h)
end Go.Proofs.YtlbikgnanabjgaaGreat
