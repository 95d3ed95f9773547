/-
  PlE.
-/
import Derived.Test.YtihlbbbajaepoaaGreatQ13
import Derived.Test.YtihlbbbajaepoaaGreatQ19
import Derived.Test.YtihlbbbajaepoaaGreatQ24
import Derived.Test.YtihlbbbajaepoaaGreatQ30
import Derived.ChangeAlike
import Derived.RegionTactic
namespace Go.Proofs.YtihlbbbajaepoaaGreat
open Go.RowKit
theorem Passed.get {u : World} : ∀ {p : List (Tm × Nat)} {qs : List (Tm × Value × Nat)}, Passed u p qs → ∀ j (h : j < p.length), (entry qs j).1 = p[j].1 ∧ (entry qs j).2.2 = p[j].2 ∧ SlIn u 0 p[j].1.kids (entry qs j).2.1
 | _ :: _, _ :: _, h, 0, _ => ⟨h.1, h.2.1, by
   have := h.2.2.1
   simpa [entry] using this⟩
 | _ :: p, _ :: q, h, j + 1, hj => by
   have := Passed.get (p := p) (qs := q) h.2.2.2 j (by simpa using hj)
   simpa [entry] using this
 | [], [], _, j, h => by simp at h
 | [], _ :: _, h, _, _ => by cases h
 | _ :: _, [], h, _, _ => by cases h
theorem inPath_get : ∀ {p : List (Tm × Nat)}, InPath p → ∀ j (h : j < p.length), p[j].2 < p[j].1.kids.length
 | _ :: _, h, 0, _ => h.1
 | _ :: p, h, j + 1, hj => by simpa using inPath_get (p := p) h.2 j (by simpa using hj)
theorem scopeOf_take (p : List (Tm × Nat)) (q : Nat) (h : q < p.length) : scopeOf (p.take (q + 1)) = scopeOf (p.take q) ++ if under p[q].1.kind p[q].2 = 1 then [kidT p[q].1 0] else [] := by
 rw [List.take_succ_eq_append_getElem h, scopeOf_snoc]
theorem under_one {k : Int} {i : Nat} (h : under k i = 1) : i = 1 := by
 unfold under at h
 split at h
 ·next h' => exact h'.1
 ·cases h
def ScopePost (p : List (Tm × Nat)) (w : World) (e : Ending) (w' : World) : Prop := Below w.heap.size w w' ∧ ∃ a c, e = .returned (.slice a (scopeOf p).length c) ∧ SlIn w' 0 (scopeOf p) (.slice a (scopeOf p).length c)
set_option maxRecDepth 100000 in
set_option maxHeartbeats 3000000 in
theorem scopeI_any {u w : World} {g : Nat} {t : Tm} {p : List (Tm × Nat)} {M : Nat → Prop} (hin : InPath p) (hp : p.length < 100) (h : CurAt u g t p M w) :
  Calls Tryz.prog 66 #[.pointer (some ⟨g, 0, none⟩)] w (ScopePost p w) := by
 obtain ⟨hu, s, qs, hs, hpas, hst⟩ := h
 obtain ⟨sa, gb, cap, hcv, hgb, hcells⟩ := hst.view
 have hlen := hpas.length
 have zg := World.block_lt_of_cell? w _ hcv
 rw [hlen] at hcv
 have HP : Hid (∀ (q : Nat) (w' : World) (a : Option Addr) (c : Nat), (scopeOf p).length = q → Below w.heap.size w w' → SlIn w' 0 (scopeOf p) (.slice a q c) → ScopePost p w (.returned (.slice a q c)) w') := tuck fun q w' a c e h1 h2 => by subst e; exact ⟨h1, a, c, rfl, h2⟩
 generalize ScopePost p w = post at *
 have HCE := tuck hcells
 have HGB := tuck hgb
 have HU := tuck hu
 have HPAS := tuck hpas
 have HLEN := tuck hlen
 clear hst hcells hgb hu hs hpas hlen
 go_enter Tryz.func66, Tryz.ntmps66
 go_wp2_with fail
 go_loopw [3, 11] (fun lv iv wr => ∃ (q n : Nat) (vl : Value), q ≤ p.length ∧ n ≤ q ∧ (scopeOf (p.take q)).length = n ∧ lv = vl ∧ iv = .int .i64 q ∧ Below w.heap.size w wr ∧ RowT w.heap.size w.heap.size (scopeOf (p.take q)) vl wr) (fun _ iv _ => p.length - (intOf iv).toNat)
 case atStart => exact ⟨0, 0, _, Nat.zero_le _, Nat.le_refl _, rfl, rfl, rfl, Below.refl _ _, RowT.nil _ _ _⟩
 case round =>
  obtain ⟨q, n, vl, hq, hnq, hn, rfl, rfl, hb, hrow⟩ := hrel
  obtain ⟨va, vc, rfl⟩ := hrow.form' hn
  have HB := tuck hb
  have HROW := tuck hrow
  have HN := tuck hn
  clear hb hrow hn
  by_cases hlt : q < p.length
  rotate_left
  ·obtain rfl : q = p.length := by omega
   have hlti : ¬ ((p.length : Int) < (p.length : Int)) := by omega
   have hall : p.take p.length = p := List.take_length
   clear hlt
   go_wp2_with fail
   have h1 := HN.out
   have h2 := SlX.sl (HROW.out.done' h1 (by unfold maxLen; omega))
   rw [hall] at h1 h2
   exact HP.out n _ va vc h1 HB.out h2
  have hlti : ((q : Int) < (p.length : Int)) := by omega
  have hqi : (0 : Int) ≤ (q : Int) := by omega
  obtain ⟨k0, k1, k2, k3⟩ := stkCells_get qs q (by rw [HLEN.out]; exact hlt)
  obtain ⟨e1, e2, e3⟩ := HPAS.out.get q hlt
  have hix := inPath_get hin q hlt
  have HTK := tuck (scopeOf_take p q hlt)
  obtain ⟨rfl, hgw⟩ := HGB.out (by intro e; have := HLEN.out; rw [e] at this; simp at this; omega)
  have c0 := (HB.out.cell (p := ⟨gb, q * 4, none⟩) hgw).trans (HCE.out _ _ k0)
  have c1 := (HB.out.cell (p := ⟨gb, q * 4 + 1, none⟩) hgw).trans (HCE.out _ _ k1)
  have c2 := (HB.out.cell (p := ⟨gb, q * 4 + 2, none⟩) hgw).trans (HCE.out _ _ k2)
  have c3 := (HB.out.cell (p := ⟨gb, q * 4 + 3, none⟩) hgw).trans (HCE.out _ _ k3)
  have hgr : gb < wr.heap.size := World.block_lt_of_cell? wr _ c0
  rw [e1] at c0 c1
  rw [e2] at c3
  generalize (entry qs q).2.1 = sx at *
  clear k0 k1 k2 k3 e1 e2
  generalize p[q].1 = T at *
  generalize p[q].2 = i at *
  obtain ⟨ta, tc, b, ofs, rfl, -, hp', hc'⟩ := e3.open
  obtain ⟨rfl, -, hbu⟩ := hp' (by intro e; rw [e] at hix; simp at hix)
  obtain ⟨s0, d0, d1, d2, hs0⟩ := hc' 0 (by omega)
  obtain ⟨xa, xc, rfl⟩ := hs0.form
  have hk0 : kidT T 0 = T.kids[0]'(by omega) := kidT_eq (by omega)
  rw [hk0] at HTK
  have f0 := HU.out.rd _ _ d0
  have f1 := HU.out.rd _ _ d1
  have f2 := HU.out.rd _ _ d2
  have hbw := World.block_lt_of_cell? w _ f0
  have g0 := (HB.out.cell (p := ⟨b, ofs + 0 * 3, none⟩) hbw).trans f0
  have g1 := (HB.out.cell (p := ⟨b, ofs + 0 * 3 + 1, none⟩) hbw).trans f1
  have g2 := (HB.out.cell (p := ⟨b, ofs + 0 * 3 + 2, none⟩) hbw).trans f2
  simp only [Nat.zero_mul, Nat.add_zero] at g0 g1 g2
  have hsx := SlX.of_view (X := OffT w.heap.size w.heap.size (.slice va n vc)) (HU.out.sl hs0) (View.of_below HB.out (fun j hj => by
   rcases hj with hj | hj
   ·exact hj.1
   ·have := (HROW.out.lt j hj).1; omega))
  have HSX := tuck hsx
  have hL2 : i = 1 → (0 : Int) < (T.kids.length : Int) := fun _ => by omega
  have HIX : Hid (0 < T.kids.length) := tuck (by omega)
  clear e3 hp' hc' hs0 hsx d0 d1 d2 f0 f1 f2 hk0
  generalize T.kids[0]'(by omega) = y at *
  have HV := tuck (show (wr.alloc (.cells #[.int .i64 T.kind, .int .i64 T.num, .slice (some ⟨b, ofs, none⟩) T.kids.length tc, .int .i64 (i : Int)] 152)).heap[wr.heap.size]? = some _ from heap_new wr _)
  have HBV := tuck (below1 wr (.cells #[.int .i64 T.kind, .int .i64 T.num, .slice (some ⟨b, ofs, none⟩) T.kids.length tc, .int .i64 (i : Int)] 152))
  have HRV := tuck (HROW.out.below HBV.out)
  have HSV := tuck (HSX.out.below HBV.out)
  have HWV := tuck (bAfter HB.out HBV.out)
  have hb2 : b < wr.heap.size := Nat.lt_of_lt_of_le hbw HB.out.size
  replace g0 := (HBV.out.cell (p := ⟨b, ofs, none⟩) hb2).trans g0
  replace g1 := (HBV.out.cell (p := ⟨b, ofs + 1, none⟩) hb2).trans g1
  replace g2 := (HBV.out.cell (p := ⟨b, ofs + 2, none⟩) hb2).trans g2
  have HLT := tuck HROW.out.lt
  clear HROW HSX HB
  go_wp2_with fail
  obtain ⟨zv, v0, -⟩ := block_of_cells HV.out
  have b0 : _ = some (Value.int .i64 T.kind) := v0 0
  have b1 : _ = some (Value.int .i64 T.num) := v0 1
  have b2 : _ = some (Value.slice (some ⟨b, ofs, none⟩) T.kids.length tc) := v0 2
  have b3 : _ = some (Value.int .i64 (i : Int)) := v0 3
  generalize wr.alloc (.cells #[.int .i64 T.kind, .int .i64 T.num, .slice (some ⟨b, ofs, none⟩) T.kids.length tc, .int .i64 (i : Int)] 152) = W at *
  refine (inScope_any T.kind i W).mono ?_
  rintro e w2 ⟨rfl, rfl⟩
  clear v0
  by_cases hun : under T.kind i = 1
  rotate_left
  ·have hT2 := HTK.out
   rw [if_neg hun, List.append_nil] at hT2
   have HT2 := tuck hT2
   rw [decide_eq_false hun]
   clear hT2 hun
   go_wp2_with fail
   go_roundw
   case rel => exact ⟨q + 1, n, _, by omega, by omega, by rw [HT2.out]; exact HN.out, rfl, by go_num, HWV.out, by rw [HT2.out]; exact HRV.out⟩
   case measure => simp [intOf]; omega
  have hT2 := HTK.out
  rw [if_pos hun] at hT2
  have HT2 := tuck hT2
  rw [decide_eq_true hun]
  have hL3 : (0 : Int) < (T.kids.length : Int) := hL2 (under_one hun)
  obtain ⟨i0, hi0, hz0, hz1, hz2'⟩ := info_parts info_termG
  have HI0 := tuck hi0
  have HI1 := tuck hz0
  have HI2 := tuck hz1
  have HI3 := tuck hz2'
  clear hi0 hz0 hz1 hz2' hT2 hun hL2 HTK
  have hbk := below1 W (.cells #[.int .i64 y.kind, .int .i64 y.num, .slice xa y.kids.length xc] 34)
  have HBK := tuck hbk
  have HRK := tuck (HRV.out.below hbk)
  have HSXK := tuck (HSV.out.below hbk)
  obtain ⟨xs, hox, hpush⟩ := HRK.out.grow HN.out
  have HOX := tuck hox
  have HPUSH := tuck hpush
  have hq4 : n + 1 ≤ maxLen := by unfold maxLen; omega
  have hqb : (n + 1) * 40 ≤ 140737488355328 := by omega
  have HWB : Hid (w.heap.size ≤ W.heap.size) := tuck HWV.out.size
  clear hox hpush hbk
  go_wp2_with (at_builtin; refine wpList_append_lies _ rfl _ _ _ rfl w.heap.size 34 i0 _ 3 40 Tryz.underlying95 HI0.out HI1.out HI2.out HI3.out rfl (by omega) _ _ _ rfl HOX.out ⟨W.heap.size, 0, none⟩ 1 1 [.int .i64 y.kind, .int .i64 y.num, .slice xa y.kids.length xc] rfl rfl ?news ?one (by omega) hq4 hqb ?base (W.heap.size + 1) ?size ?next)
  case news => exact World.news_of_block (cs := #[.int .i64 y.kind, .int .i64 y.num, .slice xa y.kids.length xc]) (t := 34) (fr := (0, 0)) (heap_new W _)
  case one => simp [Value.oneCell']
  case base => have := HWB.out; simp; omega
  case size => simp
  case next =>
   intro gg gcap w4 hown4 hgrow hat hlt4
   have HGR := tuck hgrow
   have HOWN := tuck hown4
   have HAT := tuck hat
   have HB4 := tuck ((bAfter HWV.out HBK.out).grown hgrow (bAfter HWV.out HBK.out).size (fun g hg => (HLT.out g hg).1))
   clear hgrow hown4 hat
   go_wp2_with fail
   go_roundw
   case rel =>
    refine ⟨q + 1, n + 1, .slice (some ⟨gg, 0, none⟩) (n + 1) gcap, by omega, by omega, by rw [HT2.out, List.length_append, HN.out]; rfl, rfl, by go_num, HB4.out, ?_⟩
    rw [HT2.out]
    exact HPUSH.out _ _ w4 y HSXK.out HOWN.out HGR.out (HAT.out.imp (fun h => h.symm) (fun h => by rw [h]; simp [Value.ownBlock]))
   case measure => simp [intOf]; omega
end Go.Proofs.YtihlbbbajaepoaaGreat
