/-
  OwnS.
-/
import Derived.Test.YtabbbnddfcbdiaaGreatB12
import Derived.Test.YtabbbnddfcbdiaaGreatC03
import Derived.Test.YtabbbnddfcbdiaaGreatC16
namespace Go.Proofs.YtabbbnddfcbdiaaGreat
open Go.RowKit
def Off (Z base : Nat) (v : Value) : Nat → Prop := fun i => (Z ≤ i ∧ i < base) ∨ v.ownBlock = some i
def RowR (Z base : Nat) (l : List Tm) (v : Value) (w : World) : Prop :=
 ∃ rs : List (Tm × Value), rs.map (·.1) = l ∧ w.ownsRow base 25 3 v l.length (cellsL rs) ∧ ∀ x ∈ rs, SlX w (Off Z base v) x.1.kids x.2
theorem RowR.nil (Z base : Nat) (w : World) : RowR Z base [] (.slice none 0 0) w :=
 ⟨[], rfl, World.ownsRow_nil _ _ _ _, fun x h => (by cases h)⟩
theorem RowR.form {Z base : Nat} {l : List Tm} {v : Value} {w : World} (h : RowR Z base l v w) : ∃ a cap, v = .slice a l.length cap := by
 obtain ⟨rs, -, h, -⟩ := h
 rcases h.2 with ⟨h1, h2⟩ | ⟨g, cap, _, h1, _⟩
 ·exact ⟨none, 0, by rw [h1, h2]⟩
 ·exact ⟨_, _, h1⟩
theorem RowR.form' {Z base q : Nat} {l : List Tm} {v : Value} {w : World} (h : RowR Z base l v w) (hl : l.length = q) : ∃ a cap, v = .slice a q cap := by
 obtain ⟨a, cap, e⟩ := h.form
 exact ⟨a, cap, by rw [e, hl]⟩
theorem RowR.lt {Z base : Nat} {l : List Tm} {v : Value} {w : World} (h : RowR Z base l v w) : ∀ g, v.ownBlock = some g → base ≤ g ∧ g < w.heap.size := by
 obtain ⟨rs, -, h, -⟩ := h
 exact h.lt
theorem RowR.below {Z base : Nat} {l : List Tm} {v : Value} {w w' : World} (h : RowR Z base l v w) (hb : Below w.heap.size w w') : RowR Z base l v w' := by
 obtain ⟨rs, h1, h2, h3⟩ := h
 exact ⟨rs, h1, h2.kept (grown_none hb) (by cases v.ownBlock <;> simp), fun x hx => (h3 x hx).below hb⟩
theorem RowR.setCell {Z base : Nat} {l : List Tm} {v : Value} {w : World} (h : RowR Z base l v w) {p : Addr} (hz : Z ≤ p.block) (hp : p.block < base) (u : Value) : RowR Z base l v (w.setCell p u) := by
 have hlt := h.lt
 obtain ⟨rs, h1, h2, h3⟩ := h
 refine ⟨rs, h1, ⟨h2.1, ?_⟩, fun x hx => (h3 x hx).set (Or.inl ⟨hz, hp⟩) u⟩
 rcases h2.2 with h | ⟨g, cap, cur, e, r1, r2, r3⟩
 ·exact Or.inl h
 ·refine Or.inr ⟨g, cap, cur, e, r1, (Below.heap_setCell w p u g (fun e' => ?_)).trans r2, r3⟩
  have := (hlt g (by rw [e]; rfl)).1
  omega
theorem RowR.push {Z base : Nat} {l : List Tm} {v v' : Value} {W w1 : World} {t : Tm} {s : Value} (h : RowR Z base l v W) (hs : SlX W (Off Z base v) t.kids s)
  (hown : ∀ xs, W.ownsRow base 25 3 v l.length xs → w1.ownsRow base 25 3 v' (l.length + 1) (xs ++ [.int .i64 t.kind, .int .i64 t.num, s])) (hgrow : W.grownBy w1 v.ownBlock) (hat : v'.ownBlock = v.ownBlock ∨ v'.ownBlock = some W.heap.size) :
  RowR Z base (l ++ [t]) v' w1 := by
 obtain ⟨rs, h1, h2, h3⟩ := h
 have key : ∀ (x : List Tm) (u : Value), SlX W (Off Z base v) x u → SlX w1 (Off Z base v') x u := fun x u hx => hx.to fun p y hn hc => by
  have hp := World.block_lt_of_cell? W p hc
  refine ⟨?_, (World.cell?_of_block (hgrow.block p.block hp fun e => hn (Or.inr e.symm))).trans hc⟩
  rintro (h | h)
  ·exact hn (Or.inl h)
  ·rcases hat with hat | hat
   ·exact hn (Or.inr (hat ▸ h))
   ·rw [hat] at h
    simp at h
    omega
 refine ⟨rs ++ [(t, s)], by simp [h1], ?_, fun x hx => ?_⟩
 ·have := hown _ h2
  rw [cellsL_append, List.length_append]
  simpa [cellsL] using this
 ·rcases List.mem_append.1 hx with hx | hx
  ·exact key _ _ (h3 x hx)
  ·simp only [List.mem_singleton] at hx
   subst hx
   exact key _ _ hs
theorem RowR.grow {Z base q : Nat} {l : List Tm} {v : Value} {W : World} (h : RowR Z base l v W) (hl : l.length = q) : ∃ xs, W.ownsRow base 25 3 v q xs ∧
  ∀ (v' s : Value) (w1 : World) (t : Tm), SlX W (Off Z base v) t.kids s → w1.ownsRow base 25 3 v' (q + 1) (xs ++ [.int .i64 t.kind, .int .i64 t.num, s]) →
   W.grownBy w1 v.ownBlock → (v'.ownBlock = v.ownBlock ∨ v'.ownBlock = some W.heap.size) → RowR Z base (l ++ [t]) v' w1 := by
 subst hl
 have h0 := h
 obtain ⟨rs, h1, h2, h3⟩ := h
 refine ⟨_, h2, fun v' s w1 t a1 a4 a5 a6 => h0.push a1 (fun xs hx => ?_) a5 a6⟩
 have e : xs = cellsL rs := by
  rcases hx.2 with ⟨e1, e2⟩ | ⟨g, cap, cur, e1, _, r1, _, _, _, r2⟩
  ·have n1 := hx.1
   have n2 := h2.1
   rw [e2] at n1 n2
   exact (List.length_eq_zero_iff.1 (by simpa using n1)).trans (List.length_eq_zero_iff.1 (by simpa using n2)).symm
  ·rcases h2.2 with ⟨f1, f2⟩ | ⟨g', cap', cur', f1, _, q1, _, _, _, q2⟩
   ·rw [e1] at f1
    cases f1
   ·rw [e1] at f1
    simp only [Value.slice.injEq, Option.some.injEq, Addr.mk.injEq, and_true, true_and] at f1
    obtain ⟨rfl, rfl⟩ := f1
    rw [r1] at q1
    cases q1
    rw [← r2, ← q2]
 rw [e]
 exact a4
theorem RowR.done {Z base : Nat} {l : List Tm} {v : Value} {w : World} (h : RowR Z base l v w) (hl : l.length ≤ maxLen) : SlX w (fun i => Z ≤ i ∧ i < base) l v := by
 obtain ⟨rs, h1, h2, h3⟩ := h
 have hrow := h2
 rcases h2.2 with ⟨e1, e2⟩ | ⟨g, cap, cur, rfl, r1, r2, r3⟩
 ·have : l = [] := List.length_eq_zero_iff.1 e2
  subst this
  subst e1
  exact SlX.nil _ _ _ _
 ·obtain ⟨b1, b2, b3⟩ := block_of_cells r2
  have hr : RowAt (mask w fun i => Z ≤ i ∧ i < base) 0 (rs.map (·.1)) g 0 := by
   refine RowAt.of_list (fun j u hu => ?_) fun x hx => (h3 x hx).to fun p y hn hc => ⟨fun hz => hn (Or.inl hz), hc⟩
   have := hrow.cells (g := g) rfl j u hu
   have hadd : (⟨g, 0, none⟩ : Addr).add j = ⟨g, j, none⟩ := by unfold Addr.add; split <;> simp_all
   rw [hadd] at this
   rw [Nat.zero_add]
   exact mask_cell.2 ⟨fun hz => by dsimp only at hz; omega, this⟩
  rw [h1] at hr
  exact ⟨_, _, g, 0, rfl, hl, fun _ => ⟨rfl, Nat.zero_le _⟩, hr⟩
end Go.Proofs.YtabbbnddfcbdiaaGreat
namespace Go.Proofs.YtabbbnddfcbdiaaGreat
open Go.RowKit
def LPost (w : World) (l : List Tm) (e : Ending) (w' : World) : Prop := Below w.heap.size w w' ∧ ∃ (a : Option Addr) (c : Nat), e = .returned (.slice a l.length c) ∧ SlIn w' w.heap.size l (.slice a l.length c)
set_option maxRecDepth 100000 in
theorem ownT_of {t : Tm} (hk : ∀ (w : World) (v : Value), SlIn w 0 t.kids v → Calls Tryz.prog 87 #[v] w (LPost w t.kids)) :
  ∀ (w : World) (s : Value), SlIn w 0 t.kids s → Calls Tryz.prog 51 #[.agg #[.int .i64 t.kind, .int .i64 t.num, s]] w (SPost w t) := by
 intro w s hs
 obtain ⟨a, c, rfl⟩ := hs.form
 have hb2 := below2 w (.cells #[.int .i64 t.kind, .int .i64 t.num, .slice a t.kids.length c] 25) (.cells #[.int .i64 0, .int .i64 0, .slice none 0 0] 25)
 have HV0 := tuck ((VarAt.new w t.kind t.num (.slice a t.kids.length c)).below (below1 _ (.cells #[.int .i64 0, .int .i64 0, .slice none 0 0] 25)))
 have HV1 := tuck (var_new1 w (.cells #[.int .i64 t.kind, .int .i64 t.num, .slice a t.kids.length c] 25) 0 0 (.slice none 0 0))
 have HK := tuck (hk _ _ (hs.below hb2))
 have HB2 := tuck hb2
 have HSZ : Hid (((w.alloc (.cells #[.int .i64 t.kind, .int .i64 t.num, .slice a t.kids.length c] 25)).alloc (.cells #[.int .i64 0, .int .i64 0, .slice none 0 0] 25)).heap.size = w.heap.size + 2) := tuck (by simp)
 have HP : Hid (∀ w' (a' : Option Addr) (c' : Nat), Below w.heap.size w w' → SlIn w' w.heap.size t.kids (.slice a' t.kids.length c') → SPost w t (.returned (.agg #[.int .i64 t.kind, .int .i64 t.num, .slice a' t.kids.length c'])) w') := tuck fun w' a' c' h1 h2 => ⟨h1, _, rfl, _, rfl, h2⟩
 generalize SPost w t = post at *
 clear hs hk hb2
 generalize t.kind = k at *
 generalize t.num = n at *
 generalize t.kids = l at *
 go_enter Tryz.func51, Tryz.ntmps51
 go_wp2_with fail
 generalize (w.alloc (.cells #[.int .i64 k, .int .i64 n, .slice a l.length c] 25)).alloc (.cells #[.int .i64 0, .int .i64 0, .slice none 0 0] 25) = W0 at *
 refine HK.out.mono ?_
 rintro e w3 ⟨hb3, ta, tc, rfl, hs3⟩
 obtain ⟨z0, a0, a1, a2, af⟩ := (HV0.out.below hb3).facts
 obtain ⟨z1, r0, r1, r2, rf⟩ := (HV1.out.below hb3).facts
 have HB3 := tuck (bAfter HB2.out hb3)
 have HS3 := tuck hs3
 clear hb3 hs3 HK
 go_wp2_with fail
 refine bodyPost_ret (v := .agg #[.int .i64 k, .int .i64 n, .slice ta l.length tc]) (by simp [results, Tryz.results51, go_sem, *]) rfl (HP.out _ _ _ ?_ ?_)
 ·exact bSet3 (HB3.out.setCell (p := ⟨w.heap.size, 2, none⟩) (Nat.le_refl _) _) (Nat.le_succ _) _ _ _ _ _ _
 ·have hz := HSZ.out
  exact (SlIn.set3 (SlIn.setCell HS3.out (p := ⟨w.heap.size, 2, none⟩) (by show w.heap.size < W0.heap.size; omega) _) (by omega)).mono (by omega)
set_option maxRecDepth 100000 in
set_option maxHeartbeats 1600000 in
theorem ownL_any : ∀ (l : List Tm) (w : World) (v : Value), sizes l ≤ 1048576 → SlIn w 0 l v → Calls Tryz.prog 87 #[v] w (LPost w l) := by
 intro l
 induction l using Tm.ind with
 | h l ih =>
 intro w v hsz hin
 obtain ⟨a, cap, bb, o, rfl, hlm, hp, hc⟩ := hin.open
 have hls := length_le_sizes l
 have HI := tuck ih
 have HP := tuck hp
 have HC := tuck hc
 have HSZ := tuck hsz
 have hlen : l.length ≤ 1048576 := by omega
 have HPOST : Hid (∀ w' (a' : Option Addr) (c' : Nat), Below w.heap.size w w' → SlIn w' w.heap.size l (.slice a' l.length c') → LPost w l (.returned (.slice a' l.length c')) w') := tuck fun w' a' c' h1 h2 => ⟨h1, a', c', rfl, h2⟩
 generalize LPost w l = post at *
 clear ih hp hc hlm hls hsz hin
 have HB0 := tuck (below1 w (.cells #[] 25))
 have HR0 : Hid (RowR 0 w.heap.size [] (.slice (some ⟨w.heap.size, 0, none⟩) 0 0) (w.alloc (.cells #[] 25))) := tuck (by
  have := World.ownsRow_made w #[] 0 (base := w.heap.size) (e := 25) (size := 3) (by simp) (by simp [maxLen]) rfl
  exact ⟨[], rfl, by simpa [cellsL] using this, fun x h => by cases h⟩)
 go_enter Tryz.func87, Tryz.ntmps87
 go_wp2_with fail
 generalize w.alloc (.cells #[] 25) = W0 at *
 go_loopw [9, 3] (fun i out wr => ∃ (q : Nat) (pre : List Tm) (vl : Value), q ≤ l.length ∧ pre.length = q ∧ pre = l.take q ∧ i = .int .i64 q ∧ out = vl ∧ Below w.heap.size w wr ∧ RowR 0 w.heap.size pre vl wr) (fun i _ _ => l.length - (intOf i).toNat)
 case atStart => exact ⟨0, [], _, Nat.zero_le _, rfl, rfl, rfl, rfl, HB0.out, HR0.out⟩
 case round =>
  obtain ⟨q, pre, vl, hq, hpre, hpt, rfl, rfl, hb, hrow⟩ := hrel
  have HB := tuck hb
  have HROW := tuck hrow
  have HPT := tuck hpt
  have HPRE := tuck hpre
  clear hb hrow hpt HB0 HR0
  obtain ⟨va, vc, rfl⟩ := HROW.out.form' hpre
  clear hpre
  by_cases hlt : q < l.length
  ·have hlti : ((q : Int) < (l.length : Int)) := by omega
   have hqi : (0 : Int) ≤ (q : Int) := by omega
   obtain ⟨rfl, -, hbw⟩ := HP.out (by intro e; rw [e] at hlt; simp at hlt)
   obtain ⟨s, c0, c1, c2, hs⟩ := HC.out q hlt
   obtain ⟨sa, sc, rfl⟩ := hs.form
   replace c0 := (HB.out.cell (p := ⟨bb, o + q * 3, none⟩) hbw).trans c0
   replace c1 := (HB.out.cell (p := ⟨bb, o + q * 3 + 1, none⟩) hbw).trans c1
   replace c2 := (HB.out.cell (p := ⟨bb, o + q * 3 + 2, none⟩) hbw).trans c2
   have hbr : bb < wr.heap.size := Nat.lt_of_lt_of_le hbw HB.out.size
   have hbx := below1 wr (.cells #[.int .i64 l[q].kind, .int .i64 l[q].num, .slice sa l[q].kids.length sc] 25)
   have HCALL := tuck (ownT_of (t := l[q]) (fun w v g => HI.out q hlt w v (by have := kids_get_lt l q hlt; have := HSZ.out; omega) g) _ _ (hs.below (bAfter HB.out hbx)))
   have HTAKE : Hid (l.take (q + 1) = l.take q ++ [l[q]]) := tuck (List.take_succ_eq_append_getElem hlt)
   have HBX := tuck hbx
   clear hs HI hbx
   generalize l[q] = y at *
   go_wp2_with fail
   refine HCALL.out.mono ?_
   rintro e w3 hp3
   obtain ⟨ua, uc, rfl, hb3, hs3⟩ := hp3.open
   have HS3 := tuck hs3
   obtain ⟨i0, hi0, hz0, hz1, hz2⟩ := info_parts info_termG
   have HI0 := tuck hi0
   have HI1 := tuck hz0
   have HI2 := tuck hz1
   have HI3 := tuck hz2
   clear hi0 hz0 hz1 hz2
   have hbk := bAfter (bAfter HBX.out hb3) (below1 w3 (.cells #[.int .i64 y.kind, .int .i64 y.num, .slice ua y.kids.length uc] 25))
   have HBK := tuck hbk
   have HRK := tuck (HROW.out.below hbk)
   obtain ⟨xs, hox, hpush⟩ := HRK.out.grow HPRE.out
   have HOX := tuck hox
   have HPUSH := tuck hpush
   have HLT := tuck HROW.out.lt
   have HWS : Hid (wr.heap.size + 1 ≤ w3.heap.size) := tuck (by have := hb3.size; simpa using this)
   have HWB : Hid (w.heap.size ≤ wr.heap.size) := tuck HB.out.size
   have hq4 : q + 1 ≤ maxLen := by unfold maxLen; omega
   have hqb : (q + 1) * 40 ≤ 140737488355328 := by omega
   clear hox hpush hbk hp3 hb3 hs3 c0 c1 c2 HCALL
   go_wp2_with (at_builtin; refine wpList_append_lies _ rfl _ _ _ rfl w.heap.size 25 i0 _ 3 40 Tryz.underlying23 HI0.out HI1.out HI2.out HI3.out rfl (by omega) _ _ _ rfl HOX.out ⟨w3.heap.size, 0, none⟩ 1 1 [.int .i64 y.kind, .int .i64 y.num, .slice ua y.kids.length uc] rfl rfl ?news ?one (by omega) hq4 hqb ?base (w3.heap.size + 1) ?size ?next)
   case news => exact World.news_of_block (cs := #[.int .i64 y.kind, .int .i64 y.num, .slice ua y.kids.length uc]) (t := 25) (fr := (0, 0)) (heap_new w3 _)
   case one => simp [Value.oneCell']
   case base => have := HWS.out; have := HWB.out; simp; omega
   case size => simp
   case next =>
    intro gg gcap w4 hown4 hgrow hat hlt4
    have HGR := tuck hgrow
    have HOWN := tuck hown4
    have HAT := tuck hat
    clear hgrow hown4 hat
    go_wp2_with fail
    go_roundw
    case rel =>
     have hws := HWS.out
     refine ⟨q + 1, pre ++ [y], .slice (some ⟨gg, 0, none⟩) (q + 1) gcap, by omega, by rw [List.length_append, HPRE.out]; rfl, by rw [HTAKE.out, HPT.out], by go_num, rfl, ?_, ?_⟩
     ·exact (bAfter HB.out HBK.out).grown HGR.out (bAfter HB.out HBK.out).size (fun g hg => (HLT.out g hg).1)
     ·refine HPUSH.out _ _ w4 y (SlX.of_sl (B := wr.heap.size) ((HS3.out.below (below1 w3 _)).mono (by simp)) (fun i hi => ?_)) HOWN.out HGR.out (HAT.out.imp (fun h => h.symm) (fun h => by rw [h]; simp [Value.ownBlock]))
      have := HWB.out
      rcases hi with hi | hi
      ·omega
      ·exact (HLT.out i hi).2
    case measure => simp [intOf]; omega
  ·have hge2 : ¬ ((q : Int) < (l.length : Int)) := by omega
   have e : q = l.length := by omega
   have hpl : pre = l := by rw [HPT.out, e, List.take_length]
   have hsl : SlIn wr w.heap.size l (.slice va l.length vc) := by
    have := SlX.from (B := w.heap.size) (SlX.less (X := fun i => i < w.heap.size) (HROW.out.done (by rw [hpl]; unfold maxLen; omega)) fun i h => ⟨Nat.zero_le _, h⟩)
    rw [hpl, e] at this
    exact this
   have HSL := tuck hsl
   subst e
   clear hsl hpl HPRE
   go_wp2_with fail
   exact HPOST.out _ _ _ HB.out HSL.out
theorem ownT_any (t : Tm) (h0 : sizes t.kids ≤ 1048576) (w : World) (s : Value) (hs : SlIn w 0 t.kids s) : Calls Tryz.prog 51 #[.agg #[.int .i64 t.kind, .int .i64 t.num, s]] w (SPost w t) :=
 ownT_of (fun w v h => ownL_any t.kids w v h0 h) w s hs
end Go.Proofs.YtabbbnddfcbdiaaGreat
