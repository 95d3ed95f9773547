/-
  PlI.
-/
import Derived.Test.YtleijaegpfjnpaaB07
import Derived.Test.YtleijaegpfjnpaaB31
import Derived.Test.YtleijaegpfjnpaaB55
namespace Go.Proofs.Ytleijaegpfjnpaa
open Go.RowKit
set_option linter.unusedSimpArgs false
theorem RowT.manyT {Z base m c : Nat} {l l2 : List Tm} {v : Value} {ao : Option Addr} {W : World} (h : RowT Z base l v W) (hs : SlX W (OffT Z base v) l2 (.slice ao m c)) (hm : l2.length = m) (hbase : base ≤ W.heap.size) (hl : l.length + m ≤ 1000) :
  ∃ v' W', (Builtin.append_ #[68, 68] 68 #[v, .slice ao m c]).run Try.prog W = .ok v' W' ∧ RowT Z base (l ++ l2) v' W' ∧ W.grownBy W' v.ownBlock ∧ (v'.ownBlock = v.ownBlock ∨ v'.ownBlock = some W.heap.size) := by
 obtain ⟨i0, hi0, hz0, hz1, hz2⟩ := info_parts info_termG
 have ht := Try.underlying68
 by_cases h0 : m = 0
 ·have e : l2 = [] := List.length_eq_zero_iff.1 (hm.trans h0)
  subst e
  subst h0
  refine ⟨v, W, ?_, by simpa using h, ⟨rfl, rfl, rfl, Nat.le_refl _, fun _ _ _ => rfl⟩, Or.inl rfl⟩
  obtain ⟨rs, -, h2, -⟩ := h
  rcases h2.2 with ⟨rfl, -⟩ | ⟨g, cap, cur, rfl, -, -, hnc, -⟩
  ·cases ao <;> simp [Builtin.append_, run_underlying ht, sizeOf, typeInfo, hi0, Builtin.lenOf, Builtin.firstCells, storeCells, loadCells, loadCellsFrom]
  ·cases ao <;> simp [Builtin.append_, run_underlying ht, sizeOf, typeInfo, hi0, Builtin.lenOf, Builtin.firstCells, hnc, storeCells, loadCells, loadCellsFrom]
 ·have hne : l2 ≠ [] := fun e => by rw [e] at hm; exact h0 hm.symm
  obtain ⟨rs, h1, h2, h3⟩ := h
  subst hm
  obtain ⟨a, cap', b, o, he, -, hp, -⟩ := SlX.open hs
  cases he
  obtain ⟨rfl, -⟩ := hp hne
  obtain ⟨r, hr, hcell, hx⟩ := hs.list hne
  have hrl : r.length = l2.length := by rw [← hr, List.length_map]
  have hadd : ∀ j, (⟨b, o, none⟩ : Addr).add j = ⟨b, o + j, none⟩ := fun j => by unfold Addr.add; split <;> simp_all
  obtain ⟨g, cap, w', hrun, hown, hgrow, hat, -⟩ := run_append_lies (P := Try.prog) (w := W) 68 68 base 29 i0 _ 3 40 ht hi0 hz0 hz1 hz2 rfl (by omega) v l.length (cellsL rs) h2 ⟨b, o, none⟩ l2.length c (cellsL r) (by rw [cellsL_many, hrl]) (fun j u hu => by rw [hadd]; exact hcell j u hu) (SlX.one hx) (by omega) (by unfold maxLen; omega) (by omega) hbase _ rfl
  refine ⟨_, w', hrun, ⟨rs ++ r, by simp [h1, hr], ?_, fun x hx' => ?_⟩, hgrow, ?_⟩
  ·rw [cellsL_append, List.length_append]
   exact hown
  ·have key : ∀ (x : List Tm) (u : Value), SlX W (OffT Z base v) x u → SlX w' (OffT Z base (.slice (some ⟨g, 0, none⟩) (l.length + l2.length) cap)) x u := fun x u hx => hx.to fun p y hn hc => by
    have hp := World.block_lt_of_cell? W p hc
    refine ⟨?_, (World.cell?_of_block (hgrow.block p.block hp fun e => hn (Or.inr e.symm))).trans hc⟩
    rintro (h | h)
    ·exact hn (Or.inl h)
    ·simp [Value.ownBlock] at h
     rcases hat with hat | hat
     ·exact hn (Or.inr (by rw [hat, h]))
     ·omega
   rcases List.mem_append.1 hx' with hx' | hx'
   ·exact key _ _ (h3 x hx')
   ·exact key _ _ (hx x hx')
  ·rcases hat with hat | hat
   ·exact Or.inl (by rw [hat]; rfl)
   ·exact Or.inr (by rw [hat]; rfl)
set_option maxRecDepth 100000 in
theorem grow_any (n : Nat) (hn : n ≤ 1000) (w : World) : Calls Try.prog 71 #[.slice none 0 0, .int .i64 (n : Int)] w fun e w' => Below w.heap.size w w' ∧ ∃ v, e = .returned v ∧ RowT w.heap.size w.heap.size [] v w' := by
 obtain ⟨post, hpost⟩ : ∃ post : Ending → World → Prop, post = fun e w' => Below w.heap.size w w' ∧ ∃ v, e = .returned v ∧ RowT w.heap.size w.heap.size [] v w' := ⟨_, rfl⟩
 rw [← hpost]
 have HP : Hid (∀ v w', Below w.heap.size w w' → RowT w.heap.size w.heap.size [] v w' → post (.returned v) w') := tuck fun v w' h1 h2 => by rw [hpost]; exact ⟨h1, v, rfl, h2⟩
 clear hpost
 by_cases h0 : n = 0
 ·subst h0
  have HQ := tuck (HP.out _ w (Below.refl _ _) (RowT.nil _ _ _))
  clear HP
  go_enter Try.func71, Try.ntmps71
  go_wp2_with fail
  exact HQ.out
 ·obtain ⟨i0, hi0, hz0, hz1, hz2⟩ := info_parts info_termG
  have hneg : ¬ ((n : Int) < 0) := by omega
  have hpos : (0 : Int) < (n : Int) := by omega
  have hpos2 : (n : Int) > 0 := by omega
  obtain ⟨G, hG⟩ : ∃ G, G = grownCap w n 0 29 := ⟨_, rfl⟩
  have hGn : n ≤ G := by rw [hG]; exact grownCap_ge w _ _ _
  have hGm : G ≤ maxLen := by rw [hG]; exact grownCap_le_maxLen w _ _ _ (by unfold maxLen; omega)
  have HRUN := tuck (Go.Lib.run_append_nil_zeros (P := Try.prog) w 68 3 68 29 i0 _ .i64 .i64 Try.underlying68 Try.underlying3 hi0 hz0 n (by omega) (by rw [hz1]; omega) (by omega) (by rw [hz2]; omega))
  rw [← hG] at HRUN
  obtain ⟨cs, hcs⟩ : ∃ cs, cs = Builtin.zeroCells (Value.cells (.agg #[.int .i64 0, .int .i64 0, .slice none 0 0])) n ++ Builtin.zeroCells (Value.cells (.agg #[.int .i64 0, .int .i64 0, .slice none 0 0])) (G - n) := ⟨_, rfl⟩
  have hsz : cs.size = G * 3 := by
   rw [hcs, Array.size_append, Go.size_zeroCells, Go.size_zeroCells]
   simp [Value.cells]
   omega
  rw [← hcs] at HRUN
  have hrow : RowT w.heap.size w.heap.size [] (.slice (some ⟨w.heap.size, 0, none⟩) 0 G) (w.drew.alloc (.cells cs 29)) :=
   ⟨[], rfl, ⟨rfl, Or.inr ⟨w.heap.size, G, cs, rfl, Nat.le_refl _, heap_new w.drew _, Nat.zero_le _, hGm, hsz, by simp [cellsL]⟩⟩, fun x h => by cases h⟩
  have HQ := tuck (HP.out _ _ ((Below.refl _ w).drew.alloc (Nat.le_refl _) _) hrow)
  have hG0 : (0 : Int) ≤ (G : Int) := by omega
  clear HP hG hcs hsz hrow hGm
  go_enter Try.func71, Try.ntmps71
  go_wp2_with (at_builtin; refine Go.Lib.wpList_append_run _ rfl _ _ _ _ rfl _ _ rfl rfl _ _ HRUN.out ?_)
  exact HQ.out
theorem lift_off {w W : World} {v : Value} {l : List Tm} {s : Value} (hb : Below w.heap.size w W) (hv : ∀ g, v.ownBlock = some g → w.heap.size ≤ g) (h : SlIn w 0 l s) : SlX W (OffT w.heap.size w.heap.size v) l s :=
 (SlX.of_sl (X := fun _ => False) h (fun _ hi => hi.elim)).to fun p u _ hc => by
  have hp := World.block_lt_of_cell? w p hc
  refine ⟨?_, (hb.cell hp).trans hc⟩
  rintro (h | h)
  ·omega
  ·have := hv _ h; omega
def parts (ls : List (List Tm × Option Addr × Nat)) (q : Nat) : List Tm := ((ls.take q).map (·.1)).flatten
theorem parts_succ (ls : List (List Tm × Option Addr × Nat)) (q : Nat) (h : q < ls.length) : parts ls (q + 1) = parts ls q ++ ls[q].1 := by
 unfold parts
 rw [List.take_succ_eq_append_getElem h]
 simp only [List.map_append, List.map_cons, List.map_nil, List.flatten_append, List.flatten_cons, List.flatten_nil, List.append_nil]
theorem parts_len (ls : List (List Tm × Option Addr × Nat)) (hl : ∀ j (h : j < ls.length), ls[j].1.length ≤ 90) : ∀ q, q ≤ ls.length → (parts ls q).length ≤ q * 90
 | 0, _ => by simp [parts]
 | q + 1, h => by
  have := parts_len ls hl q (by omega)
  have := hl q (by omega)
  rw [parts_succ ls q (by omega), List.length_append]
  omega
def CatPost (l : List Tm) (w : World) (e : Ending) (w' : World) : Prop := Below w.heap.size w w' ∧ ∃ a c, e = .returned (.slice a l.length c) ∧ SlIn w' 0 l (.slice a l.length c)
set_option maxRecDepth 100000 in
set_option maxHeartbeats 1600000 in
theorem concat_any (ls : List (List Tm × Option Addr × Nat)) (hn : ls.length ≤ 10) (hl : ∀ j (h : j < ls.length), ls[j].1.length ≤ 90) (w : World) (gb cap : Nat) (hgb : gb < w.heap.size)
  (hc : ∀ j (h : j < ls.length), w.cell? ⟨gb, j, none⟩ = some (.slice ls[j].2.1 ls[j].1.length ls[j].2.2)) (hs : ∀ j (h : j < ls.length), SlIn w 0 ls[j].1 (.slice ls[j].2.1 ls[j].1.length ls[j].2.2)) :
  Calls Try.prog 57 #[.slice (some ⟨gb, 0, none⟩) ls.length cap] w (CatPost (parts ls ls.length) w) := by
 have HP : Hid (∀ w' a c m, (parts ls ls.length).length = m → Below w.heap.size w w' → SlIn w' 0 (parts ls ls.length) (.slice a m c) → CatPost (parts ls ls.length) w (.returned (.slice a m c)) w') := tuck fun w' a c m e h1 h2 => by subst e; exact ⟨h1, a, c, rfl, h2⟩
 generalize hpost : CatPost (parts ls ls.length) w = post at *
 have HC := tuck hc
 have HS := tuck hs
 have HPL := tuck (parts_len ls hl)
 clear hc hs hpost
 go_enter Try.func57, Try.ntmps57
 go_wp2_with fail
 go_loopw [3, 11] (fun sv iv wr => ∃ q m : Nat, q ≤ ls.length ∧ (parts ls q).length = m ∧ iv = .int .i64 q ∧ sv = .int .i64 m ∧ wr = w) (fun _ iv _ => ls.length - (intOf iv).toNat)
 case atStart => exact ⟨0, 0, Nat.zero_le _, rfl, rfl, rfl, rfl⟩
 case round =>
  obtain ⟨q, m, hq, hm, rfl, rfl, hwr⟩ := hrel
  obtain rfl : w = wr := hwr.symm
  clear hwr
  have hmb := HPL.out q hq
  rw [hm] at hmb
  have HM := tuck hm
  clear hm
  by_cases hlt : q < ls.length
  ·have hlti : ((q : Int) < (ls.length : Int)) := by omega
   have hqi : (0 : Int) ≤ (q : Int) := by omega
   have c0 := HC.out q hlt
   have hlb := hl q hlt
   have HPS : Hid ((parts ls (q + 1)).length = m + ls[q].1.length) := tuck (by rw [parts_succ ls q hlt, List.length_append, HM.out])
   generalize ls[q].1.length = k at *
   generalize ls[q].2.1 = ka at *
   generalize ls[q].2.2 = kc at *
   have hge : ¬ ((m : Int) + (k : Int) < 0) := by omega
   go_wp2_with fail
   go_roundw
   case rel => exact ⟨q + 1, m + k, by omega, HPS.out, by go_num, by go_num, trivial⟩
   case measure => simp [intOf]; omega
  ·obtain rfl : q = ls.length := by omega
   have hlti : ¬ ((ls.length : Int) < (ls.length : Int)) := by omega
   have HG := tuck (grow_any m (by omega))
   clear hlt
   go_wp2_with fail
   refine (HG.out w).mono ?_
   rintro e w1 ⟨hb1, v1, rfl, hrow1⟩
   have HB1 := tuck hb1
   have HR1 := tuck hrow1
   clear hb1 hrow1 HM hmb HG
   go_wp2_with fail
   go_loopw [6, 27] (fun nv iv wl => ∃ (q : Nat) (v : Value), q ≤ ls.length ∧ nv = v ∧ iv = .int .i64 q ∧ Below w.heap.size w wl ∧ RowT w.heap.size w.heap.size (parts ls q) v wl) (fun _ iv _ => ls.length - (intOf iv).toNat)
   case atStart => exact ⟨0, v1, Nat.zero_le _, rfl, rfl, HB1.out, HR1.out⟩
   case round =>
    obtain ⟨q, v, hq, rfl, rfl, hb, hrow⟩ := hrel
    have hmb := HPL.out q hq
    have HB := tuck hb
    have HROW := tuck hrow
    clear hb hrow
    by_cases hlt : q < ls.length
    ·have hlti : ((q : Int) < (ls.length : Int)) := by omega
     have hqi : (0 : Int) ≤ (q : Int) := by omega
     have c0 := (HB.out.cell (p := ⟨gb, q, none⟩) hgb).trans (HC.out q hlt)
     have hgl : gb < _ := World.block_lt_of_cell? _ _ c0
     have hlb := hl q hlt
     obtain ⟨v', W', hrun, hrow', hgr, -⟩ := HROW.out.manyT (lift_off HB.out (fun g hg => (HROW.out.lt g hg).1) (HS.out q hlt)) rfl HB.out.size (by omega)
     have HRUN := tuck hrun
     have HROW' : Hid (RowT w.heap.size w.heap.size (parts ls (q + 1)) v' W') := tuck (by rw [parts_succ ls q hlt]; exact hrow')
     have HB' := tuck (HB.out.grown hgr HB.out.size (fun g hg => (HROW.out.lt g hg).1))
     clear hrun hrow' hgr
     generalize ls[q].1.length = k at *
     generalize ls[q].2.1 = ka at *
     generalize ls[q].2.2 = kc at *
     go_wp2_with (at_builtin; refine Go.Lib.wpList_append_run _ rfl _ _ _ _ rfl _ _ rfl rfl _ _ HRUN.out ?_)
     go_roundw
     case rel => exact ⟨q + 1, v', by omega, rfl, by go_num, HB'.out, HROW'.out⟩
     case measure => simp [intOf]; omega
    ·obtain rfl : q = ls.length := by omega
     have hlti : ¬ ((ls.length : Int) < (ls.length : Int)) := by omega
     obtain ⟨va, vc, rfl⟩ := HROW.out.form
     have HE := tuck (HP.out _ va vc _ rfl HB.out (SlX.sl (HROW.out.done (by unfold maxLen; omega))))
     generalize (parts ls ls.length).length = m at *
     clear hlt
     go_wp2_with fail
     exact HE.out
set_option maxRecDepth 100000 in
theorem allValid_any (l : List Tm) (w : World) (v : Value) (h : SlIn w 0 l v) (hl8 : l.length ≤ 1000) : Calls Try.prog 56 #[v] w (BoolPost w (tr (∀ x ∈ l, x.Valid))) := by
 obtain ⟨a, cap, b, o, rfl, hl, hp, hc⟩ := h.open
 have HP := tuck hp
 have HC := tuck hc
 clear hp hc h hl
 have HY : Hid ((∀ (i : Nat) (hi : i < l.length), l[i].Valid) → ∀ w', Below w.heap.size w w' → BoolPost w (tr (∀ x ∈ l, x.Valid)) (.returned (.bool true)) w') := tuck fun h w' hb => ⟨by rw [tr_of fun x hx => by obtain ⟨i, hi, rfl⟩ := List.getElem_of_mem hx; exact h i hi], hb⟩
 have HN : Hid (∀ (i : Nat) (hi : i < l.length), ¬ l[i].Valid → ∀ w', Below w.heap.size w w' → BoolPost w (tr (∀ x ∈ l, x.Valid)) (.returned (.bool false)) w') := tuck fun i hi hn w' hb => ⟨by rw [tr_not fun hf : ∀ x ∈ l, x.Valid => hn (hf _ (List.getElem_mem hi))], hb⟩
 generalize BoolPost w (tr (∀ x ∈ l, x.Valid)) = post at *
 go_enter Try.func56, Try.ntmps56
 go_wp2_with fail
 go_loopw [7] (fun i wr => ∃ q : Nat, q ≤ l.length ∧ i = .int .i64 q ∧ Below w.heap.size w wr ∧ ∀ (i : Nat) (hi : i < l.length), i < q → l[i].Valid) (fun i _ => l.length - (intOf i).toNat)
 case atStart => exact ⟨0, Nat.zero_le _, rfl, Below.refl _ _, fun i _ h => absurd h (Nat.not_lt_zero _)⟩
 case round =>
  obtain ⟨q, hq, rfl, hb, hall⟩ := hrel
  have HB := tuck hb
  have HALL := tuck hall
  clear hb hall
  by_cases hlt : q < l.length
  ·have hlti : ((q : Int) < (l.length : Int)) := by omega
   have hqi : (0 : Int) ≤ (q : Int) := by omega
   obtain ⟨rfl, _, hbw⟩ := HP.out (by intro e; rw [e] at hlt; simp at hlt)
   obtain ⟨s, c0, c1, c2, hs⟩ := HC.out q hlt
   obtain ⟨sa, sc, rfl⟩ := hs.form
   replace c0 := (HB.out.cell (p := ⟨b, o + q * 3, none⟩) hbw).trans c0
   replace c1 := (HB.out.cell (p := ⟨b, o + q * 3 + 1, none⟩) hbw).trans c1
   replace c2 := (HB.out.cell (p := ⟨b, o + q * 3 + 2, none⟩) hbw).trans c2
   have hbr := World.block_lt_of_cell? wr _ c0
   have hbx := below1 wr (.cells #[.int .i64 l[q].kind, .int .i64 l[q].num, .slice sa l[q].kids.length sc] 29)
   have HV : Hid (Calls Try.prog 61 #[.agg #[.int .i64 l[q].kind, .int .i64 l[q].num, .slice sa l[q].kids.length sc]] _ (BoolPost _ (tr l[q].Valid))) := tuck (validI_any l[q] _ _ ⟨_, rfl, (hs.below HB.out).below hbx⟩)
   have HB2 := tuck (bAfter HB.out hbx)
   have HNQ := tuck (HN.out q hlt)
   have HVQ : Hid (l[q].Valid → ∀ (i : Nat) (hi : i < l.length), i < q + 1 → l[i].Valid) := tuck fun h i hi hiq => by
    by_cases e : i = q
    ·subst e; exact h
    ·exact HALL.out i hi (by omega)
   obtain ⟨zx, x0, x1, x2, xf⟩ := (VarAt.new wr l[q].kind l[q].num (.slice sa l[q].kids.length sc)).facts
   clear hs hbx
   generalize l[q] = x at *
   go_wp2_with fail
   refine HV.out.mono ?_
   rintro e w2 ⟨rfl, hb2⟩
   have HB3 := tuck (bAfter HB2.out hb2)
   by_cases hv : x.Valid
   ·have HVV := tuck (HVQ.out hv)
    rw [tr_of hv]
    clear hv hb2
    go_wp2_with fail
    go_roundw
    case rel => exact ⟨q + 1, by omega, by go_num, HB3.out, HVV.out⟩
    case measure => simp [intOf]; omega
   ·have HNN := tuck (HNQ.out hv)
    rw [tr_not hv]
    clear hv hb2
    go_wp2_with fail
    exact HNN.out _ HB3.out
  ·obtain rfl : q = l.length := by omega
   have hlti : ¬ ((l.length : Int) < (l.length : Int)) := by omega
   have HE := tuck (HY.out (fun i hi => HALL.out i hi hi) _ HB.out)
   clear hlt
   go_wp2_with fail
   exact HE.out
end Go.Proofs.Ytleijaegpfjnpaa
