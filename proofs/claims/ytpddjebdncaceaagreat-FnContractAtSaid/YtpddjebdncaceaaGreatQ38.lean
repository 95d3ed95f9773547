/-
  PlV.
-/
import Derived.Test.YtpddjebdncaceaaGreatQ37
import Derived.Deep.AppendLies
namespace Go.Proofs.YtpddjebdncaceaaGreat
open Go.RowKit
theorem own_sm {w : World} {base n : Nat} {e : TypeId} {size : Nat} {xs : List Value} {v : Value} (h : w.ownsRow base e size v n xs) (hv : v.ownBlock ≠ none) : Sm v := by
 rcases h.2 with ⟨rfl, -⟩ | ⟨g, cap, cur, rfl, -⟩
 ·exact absurd rfl hv
 ·exact ⟨_, _, _, _, rfl⟩
theorem info_intsE : (Tryz.prog.info? 28).map (fun i => (i.zero, i.size, i.bytes)) = some (some (.slice none 0 0), 1, 24) := by kernel_rfl
theorem rowP_append {base : Nat} {L : List ((Int → Int) × Nat)} {v : Value} {W : World} {N : Int → Int} {len : Nat} {ao : Option Addr} {c : Nat} (h : RowP base L v W) (hs : IsX W (fun i => v.ownBlock = some i ∨ i < base) N len (.slice ao len c)) (hsm : Sm (.slice ao len c)) (hbase : base ≤ W.heap.size) (hl : L.length + 1 ≤ 1000) :
  ∃ v' W', (Builtin.append_ #[53, 53] 53 #[v, .slice (some ⟨W.heap.size, 0, none⟩) 1 1]).run Tryz.prog (W.alloc (.cells #[.slice ao len c] 28)) = .ok v' W' ∧ RowP base (L ++ [(N, len)]) v' W' ∧ (W.alloc (.cells #[.slice ao len c] 28)).grownBy W' v.ownBlock ∧ (v'.ownBlock = v.ownBlock ∨ v'.ownBlock = some (W.heap.size + 1)) := by
 obtain ⟨i0, hi0, hz0, hz1, hz2⟩ := info_parts info_intsE
 have ht := Tryz.underlying53
 obtain ⟨vs, h1, h2, h3⟩ := h
 have hb := below1 W (.cells #[.slice ao len c] 28)
 have z := heap_new W (.cells #[.slice ao len c] 28)
 obtain ⟨zz, zc, -⟩ := block_of_cells z
 have hadd : ∀ j, (⟨W.heap.size, 0, none⟩ : Addr).add j = ⟨W.heap.size, j, none⟩ := fun j => by unfold Addr.add; split <;> simp_all
 obtain ⟨g, cap, w', hrun, hown, hgrow, hat, -⟩ := run_append_lies (P := Tryz.prog) (w := W.alloc (.cells #[.slice ao len c] 28)) 53 53 base 28 i0 _ 1 24 ht hi0 hz0 hz1 hz2 rfl (by omega) v L.length vs (h2.kept (grown_none hb) (by cases v.ownBlock <;> simp)) ⟨W.heap.size, 0, none⟩ 1 1 [.slice ao len c] rfl (fun j u hu => by
  rw [hadd]
  rcases j with _ | j
  ·cases hu
   exact zc 0
  ·simp at hu) (fun u hu => by
  rw [List.mem_singleton] at hu
  subst hu
  rfl) (by omega) (by unfold maxLen; omega) (by omega) (Nat.le_trans hbase hb.size) _ rfl
 have hsz : (W.alloc (.cells #[.slice ao len c] 28)).heap.size = W.heap.size + 1 := by simp
 refine ⟨_, w', hrun, RowP.push h1 h3 hs hsm hb hown hgrow ?_, hgrow, ?_⟩
 ·rcases hat with hat | hat
  ·exact Or.inl (by rw [hat]; rfl)
  ·exact Or.inr ⟨g, rfl, by omega⟩
 ·rcases hat with hat | hat
  ·exact Or.inl (by rw [hat]; rfl)
  ·exact Or.inr (by rw [hat, hsz]; rfl)
set_option maxRecDepth 100000 in
set_option maxHeartbeats 8000000 in
theorem l8places_any (base : Nat) (rd : Bool) : ∀ (l : List Tm) (k n : Int) (p : List (Tm × Nat)) (L : List ((Int → Int) × Nat)) (w : World) (out s pv : Value), (Tm.mk k n l).Valid → p.length + hgts l ≤ 900 → L.length + 1 + sizes l ≤ 900 → RowP base L out w → base ≤ w.heap.size → SlX w (fun i => out.ownBlock = some i) l s → IsX w (fun i => out.ownBlock = some i) (ixAt p) p.length pv →
  Calls Tryz.prog 62 #[out, .agg #[I6 k, I6 n, s], pv, .bool rd] w (PlPost base (L ++ plcOf rd ((Tm.mk k n l).nodesFrom p)) out.ownBlock w) := by
 intro l
 induction l using Tm.ind with
 | h l ih =>
 intro k n p L w out s pv hv hdp hcn hrow hbase hs hvp
 obtain ⟨oa, oc, rfl⟩ := hrow.form
 obtain ⟨pa, pc, rfl⟩ := hvp.form
 obtain ⟨a, c, bb, o, rfl, hlm, hpp, hc⟩ := hs.open
 have hkids : ∀ j (h : j < l.length), (l[j]).Valid := fun j h => hv.get (t := .mk k n l) h
 obtain ⟨OWN, hOWN⟩ : ∃ OWN, OWN = (Value.slice oa L.length oc).ownBlock := ⟨_, rfl⟩
 rw [← hOWN]
 obtain ⟨TOT, hTOT⟩ : ∃ TOT, TOT = L ++ plcOf rd ((Tm.mk k n l).nodesFrom p) := ⟨_, rfl⟩
 rw [← hTOT]
 rw [← hOWN] at hs hvp
 simp only [← hOWN] at hpp hc
 have hnode : plcOf rd ((Tm.mk k n l).nodesFrom p) = (if (!rd || decide ((Tm.mk k n l).redex ≠ 0)) = true then [(ixAt p, p.length)] else []) ++ plcOf rd (kidsFrom (.mk k n l) l 0 p) := by
  rw [Tm.nodesFrom, plcOf, List.filter_cons]
  split <;> rfl
 rw [hnode] at hTOT
 have HRD : Hid (∀ W (h : SlIn W 0 l (.slice a l.length c)), Calls Tryz.prog 47 #[.agg #[I6 k, I6 n, .slice a l.length c]] W (IntPost W (Tm.mk k n l).redex)) := tuck fun W h => redS_any (.mk k n l) hv.root W _ h
 have HFIN : Hid (∀ w' va vc Lq, Lq = TOT → w.grownBy w' OWN → RowP base Lq (.slice va Lq.length vc) w' → ((Value.slice va Lq.length vc).ownBlock = OWN ∨ ∃ g, (Value.slice va Lq.length vc).ownBlock = some g ∧ w.heap.size ≤ g) → PlPost base TOT OWN w (.returned (.slice va Lq.length vc)) w') := tuck fun w' va vc Lq h h1 h2 h3 => by subst h; exact ⟨h1, _, rfl, h2, h3⟩
 generalize PlPost base TOT OWN w = post at *
 obtain ⟨pl, hpl⟩ : ∃ pl, pl = p.length := ⟨_, rfl⟩
 rw [← hpl]
 have HPLN : Hid (p.length = pl) := tuck hpl.symm
 have HS := tuck hs
 have HVP := tuck hvp
 have HROW0 := tuck hrow
 have HC := tuck hc
 have HPP := tuck hpp
 have HIH := tuck ih
 have hv0 := VarAt.new w k n (.slice a l.length c)
 have hb0 := below1 w (.cells #[I6 k, I6 n, .slice a l.length c] 34)
 obtain ⟨CND, hCND⟩ : ∃ C, C = (!rd || decide ((Tm.mk k n l).redex ≠ 0)) := ⟨_, rfl⟩
 rw [← hCND] at hTOT hnode
 have HCND := tuck hCND
 obtain ⟨L1, hL1⟩ : ∃ L1, L1 = L ++ (if CND = true then [(ixAt p, p.length)] else []) := ⟨_, rfl⟩
 have HL1 := tuck hL1
 have HT1 : Hid (L1 ++ plcOf rd (kidsFrom (.mk k n l) (l.drop 0) 0 p) = TOT) := tuck (by rw [hTOT, hL1, List.drop_zero, List.append_assoc])
 have HLE1 : Hid (L1.length ≤ L.length + 1 + sizes (l.take 0)) := tuck (by rw [hL1, List.length_append]; split <;> simp <;> omega)
 have hl9 : l.length ≤ 900 := by have := length_le_sizes l; omega
 have HOWN := tuck hOWN
 have HB0 := tuck hb0
 have HV0 := tuck hv0
 clear hL1 hCND hnode hTOT hs hvp hrow hc hpp ih hpl hv0 hb0 hv hOWN
 have hrw : ∀ i, OWN = some i → i < w.heap.size := fun i hi => (HROW0.out.lt i (HOWN.out ▸ hi)).2
 have HRW := tuck hrw
 clear hrw
 go_enter Tryz.func62, Tryz.ntmps62
 go_upto_region 1 with fail
 go_cut [16] (fun cv wx => cv = .bool CND ∧ Below (w.alloc (.cells #[I6 k, I6 n, .slice a l.length c] 34)).heap.size (w.alloc (.cells #[I6 k, I6 n, .slice a l.length c] 34)) wx)
 case first =>
  cases rd with
  | false =>
   go_wp2_with fail
   go_meet
   exact ⟨by rw [HCND.out]; rfl, Below.refl _ _⟩
  | true =>
   go_wp2_with fail
   refine (HRD.out _ ((HS.out.sl).below HB0.out)).mono ?_
   rintro e w' ⟨rfl, hb'⟩
   have HB' := tuck hb'
   clear hb'
   go_wp2_with fail
   all_goals (go_meet; refine ⟨?_, HB'.out⟩)
   all_goals (rw [HCND.out]; by_cases h : (Tm.mk k n l).redex = 0 <;> simp [h])
 case rest =>
  obtain ⟨rfl, hb1⟩ := hcut
  have HB1 : Hid (Below w.heap.size w wc) := tuck (bAfter HB0.out hb1)
  have HV1 : Hid (VarAt w.heap.size k n (.slice a l.length c) wc) := tuck (HV0.out.below hb1)
  have HZ0 : Hid (w.heap.size + 1 ≤ wc.heap.size) := tuck (by have := hb1.size; simpa using this)
  clear hb1
  go_upto_if 16 with fail
  go_cut [0] (fun ov wx => ∃ (v1a : Option Addr) (v1c : Nat), ov = .slice v1a L1.length v1c ∧ w.grownBy wx OWN ∧ VarAt w.heap.size k n (.slice a l.length c) wx ∧ RowP base L1 (.slice v1a L1.length v1c) wx ∧ ((Value.slice v1a L1.length v1c).ownBlock = OWN ∨ ∃ g, (Value.slice v1a L1.length v1c).ownBlock = some g ∧ w.heap.size + 1 ≤ g) ∧ w.heap.size + 1 ≤ wx.heap.size)
  case first =>
   cases CND with
   | false =>
    obtain rfl : L1 = L := by rw [HL1.out]; simp
    go_wp2_with fail
    go_meet
    exact ⟨oa, oc, rfl, grown_below (r := OWN) HB1.out ⟨rfl, rfl, rfl, Nat.le_refl _, fun _ _ _ => rfl⟩, HV1.out, HROW0.out.below HB1.out, Or.inl HOWN.out.symm, HZ0.out⟩
   | true =>
    have hL2 : L1 = L ++ [(ixAt p, p.length)] := by rw [HL1.out]; simp
    have hbe := below1 wc (.cells #[] 3)
    have hr0 : (wc.alloc (.cells #[] 3)).ownsRow wc.heap.size 3 1 (.slice (some ⟨wc.heap.size, 0, none⟩) 0 0) 0 (cellsN (ixAt p) 0) := World.ownsRow_made (base := wc.heap.size) (e := 3) (size := 1) wc #[] 0 (Nat.le_refl _) (by simp [maxLen]) rfl
    have hx0 : IsX (wc.alloc (.cells #[] 3)) (fun i => (Value.slice (some ⟨wc.heap.size, 0, none⟩) 0 0).ownBlock = some i) (ixAt p) p.length (.slice pa p.length pc) := ((HVP.out.below HB1.out).to fun b h1 h2 => ⟨fun h3 => by (have h4 : wc.heap.size = b := (by simpa [Value.ownBlock] using h3)); omega, h2, fun _ => rfl⟩).below hbe
    obtain ⟨v1, W1, k1, k2, k3, k4⟩ := ints_append (N := ixAt p) (n := 0) hr0 hx0 hbe.size (by omega)
    rw [Nat.zero_add] at k2
    have k5 := ownN_isX (X := fun i => OWN = some i ∨ i < base) k2 (fun i hi => Nat.lt_of_lt_of_le (hi.elim (HRW.out i) (fun h => Nat.lt_of_lt_of_le h hbase)) (by have := HZ0.out; omega))
    obtain ⟨va1, vc1, rfl⟩ := k5.form
    have k6 : Below wc.heap.size wc W1 := hbe.grown k3 hbe.size (fun k hk => (hr0.lt k hk).1)
    have k7 : Below w.heap.size w W1 := bAfter HB1.out k6
    have k8 := k5.congr (N' := ixAt p) (fun j hj => by unfold thenN; rw [if_neg (by omega)]; simp)
    obtain ⟨v2, W2, m1, m2, m3, m4⟩ := rowP_append (HROW0.out.below k7) (by rw [← HOWN.out]; exact k8) (own_sm k2 (by rcases k4 with k4 | k4 <;> rw [k4] <;> simp [Value.ownBlock])) (Nat.le_trans hbase k7.size) (by omega)
    rw [← hL2] at m2
    rw [← HOWN.out] at m3 m4
    obtain ⟨va2, vc2, rfl⟩ := m2.form
    have m5 : W1.grownBy W2 OWN := grown_below (below1 W1 _) m3
    have m6 : wc.grownBy W2 OWN := grown_below k6 m5
    have hz := HZ0.out
    have hfin : ∃ (v1a : Option Addr) (v1c : Nat), (Value.slice va2 L1.length vc2) = .slice v1a L1.length v1c ∧ w.grownBy W2 OWN ∧ VarAt w.heap.size k n (.slice a l.length c) W2 ∧ RowP base L1 (.slice v1a L1.length v1c) W2 ∧ ((Value.slice v1a L1.length v1c).ownBlock = OWN ∨ ∃ g, (Value.slice v1a L1.length v1c).ownBlock = some g ∧ w.heap.size + 1 ≤ g) ∧ w.heap.size + 1 ≤ W2.heap.size := ⟨va2, vc2, rfl, grown_below HB1.out m6, HV1.out.grown m6 (fun e => by have := HRW.out _ e.symm; omega), m2, by
     rcases m4 with m4 | m4
     ·exact Or.inl m4
     ·exact Or.inr ⟨_, m4, by have := k6.size; omega⟩, Nat.le_trans hz m6.size⟩
    have HFIN2 := tuck hfin
    obtain ⟨pl', hpl'⟩ : ∃ x, x = pl := ⟨_, rfl⟩
    have hpp' := HPLN.out
    rw [hpp'] at k1
    rw [hpp'] at m1
    have HR1 := tuck k1
    have HR2 := tuck m1
    clear hL2 hbe hr0 hx0 k1 k2 k3 k4 k5 k6 k7 k8 m1 m2 m3 m4 m5 m6 hz hfin hpp' hpl' pl'
    go_wp2_with (at_builtin; (first | refine Go.Lib.wpList_append_run _ rfl _ _ _ _ rfl _ _ rfl rfl _ _ HR1.out ?_ | refine Go.Lib.wpList_append_run _ rfl _ _ _ _ rfl _ _ rfl rfl _ _ HR2.out ?_))
    go_meet
    exact HFIN2.out
  case rest =>
   obtain ⟨v1a, v1c, rfl, hg1, hv1, hr1, ho1, hz1⟩ := hcut
   clear HV1 HB1 HZ0
   have HG1 := tuck hg1
   have HV1 := tuck hv1
   have HR1 := tuck hr1
   have HO1 := tuck ho1
   have HZ1 := tuck hz1
   clear hg1 hv1 hr1 ho1 hz1
   go_wp2_with fail
   go_loopw [0, 9] (fun ov iv wr => ∃ (q : Nat) (Lq : List ((Int → Int) × Nat)) (va : Option Addr) (vc : Nat), q ≤ l.length ∧ Lq ++ plcOf rd (kidsFrom (.mk k n l) (l.drop q) q p) = TOT ∧ Lq.length ≤ L.length + 1 + sizes (l.take q) ∧ ov = .slice va Lq.length vc ∧ iv = I6 q ∧ w.grownBy wr OWN ∧ VarAt w.heap.size k n (.slice a l.length c) wr ∧ RowP base Lq (.slice va Lq.length vc) wr ∧ ((Value.slice va Lq.length vc).ownBlock = OWN ∨ ∃ g, (Value.slice va Lq.length vc).ownBlock = some g ∧ w.heap.size + 1 ≤ g) ∧ w.heap.size + 1 ≤ wr.heap.size) (fun _ iv _ => l.length - (intOf iv).toNat)
   case atStart => exact ⟨0, L1, v1a, v1c, Nat.zero_le _, HT1.out, HLE1.out, rfl, rfl, HG1.out, HV1.out, HR1.out, HO1.out, HZ1.out⟩
   case round =>
    obtain ⟨q, Lq, va, vc, hq, htot, hlq, rfl, rfl, hg, hvx, hrow, ho, hz⟩ := hrel
    have HG := tuck hg
    have HV := tuck hvx
    have HROW := tuck hrow
    have HO := tuck ho
    have HTOT := tuck htot
    obtain ⟨z0, a0, a1, a2, af⟩ := HV.out.facts
    clear hg hvx hrow ho htot HG1 HV1 HR1 HO1 HT1
    by_cases hlt : q < l.length
    rotate_left
    ·obtain rfl : q = l.length := by omega
     have hlti : ¬ ((l.length : Int) < (l.length : Int)) := by omega
     have HE := tuck (HFIN.out wr va vc Lq (by have := HTOT.out; rw [List.drop_length, kidsFrom] at this; simpa [plcOf] using this) HG.out HROW.out (HO.out.imp id (fun ⟨g, h1, h2⟩ => ⟨g, h1, by omega⟩)))
     generalize Lq.length = ll at *
     clear hlt
     go_wp2_with fail
     exact HE.out
    have hlti : ((q : Int) < (l.length : Int)) := by omega
    have hqi : (0 : Int) ≤ (q : Int) := by omega
    obtain ⟨rfl, hbx, hbw⟩ := HPP.out (by intro e; rw [e] at hlt; simp at hlt)
    obtain ⟨s0, c0, c1, c2, hs0⟩ := HC.out q hlt
    obtain ⟨sa, sc, rfl⟩ := hs0.form
    have hkeep : ∀ b, ¬ OWN = some b → b < w.heap.size → ¬ (Value.slice va Lq.length vc).ownBlock = some b ∧ b < wr.heap.size ∧ wr.heap[b]? = w.heap[b]? := fun b h1 h2 => ⟨fun h3 => by
     rcases HO.out with h4 | ⟨g, h4, h5⟩
     ·exact h1 (h4 ▸ h3)
     ·rw [h4] at h3; injection h3 with h3; omega, by omega, HG.out.block b h2 (fun e => h1 e.symm)⟩
    have hk1 : ∀ (x : List Tm) (u : Value), SlX w (fun i => OWN = some i) x u → SlX wr (fun i => (Value.slice va Lq.length vc).ownBlock = some i) x u := fun x u h => h.to fun y v hn hcy => by
     obtain ⟨h1, h2, h3⟩ := hkeep y.block hn (World.block_lt_of_cell? w y hcy)
     exact ⟨h1, (World.cell?_of_block h3).trans hcy⟩
    have hvp1 : IsX wr (fun i => (Value.slice va Lq.length vc).ownBlock = some i) (ixAt p) p.length (.slice pa p.length pc) := HVP.out.to fun b h1 h2 => by
     obtain ⟨k1, k2, k3⟩ := hkeep b h1 h2
     exact ⟨k1, k2, fun o => World.cell?_of_block (a := ⟨b, o, none⟩) k3⟩
    obtain ⟨hbo, hbr, hbe⟩ := hkeep bb hbx hbw
    have hwo : ∀ x : Unit, some w.heap.size ≠ (Value.slice va Lq.length vc).ownBlock := fun _ e => by
     rcases HO.out with h4 | ⟨g, h4, h5⟩
     ·rw [h4, HOWN.out] at e
      have := (HROW0.out.lt _ e.symm).2
      omega
     ·rw [h4] at e; injection e with e; omega
    replace c0 := (World.cell?_of_block (a := ⟨bb, o + q * 3, none⟩) hbe).trans c0
    replace c1 := (World.cell?_of_block (a := ⟨bb, o + q * 3 + 1, none⟩) hbe).trans c1
    replace c2 := (World.cell?_of_block (a := ⟨bb, o + q * 3 + 2, none⟩) hbe).trans c2
    have hdrop := List.drop_eq_getElem_cons hlt
    have hT2 := HTOT.out
    rw [hdrop, kidsFrom, plcOf_app, ← List.append_assoc] at hT2
    have HT2 := tuck hT2
    have hsz := sizes_take_succ l q hlt
    have hszt := sizes_take_le l (q + 1)
    have hgt := mem_hgts hlt
    have hge := (l[q]).hgt_eq
    have hse := (l[q]).size_eq
    have hplen : (plcOf rd ((l[q]).nodesFrom (p ++ [(.mk k n l, q)]))).length ≤ (l[q]).size := by
     unfold plcOf
     rw [List.length_map]
     exact Nat.le_trans (List.length_filter_le _ _) (Nat.le_of_eq ((l[q]).nodes_len _))
    have hobs : ∀ g, (Value.slice va Lq.length vc).ownBlock = some g → base ≤ g ∧ g < wr.heap.size := HROW.out.lt
    have HCALL : Hid (∀ W vb vd, Below wr.heap.size wr W → IsX W (fun i => (Value.slice va Lq.length vc).ownBlock = some i) (ixAt (p ++ [(.mk k n l, q)])) (pl + 1) (.slice vb (pl + 1) vd) → Calls Tryz.prog 62 #[.slice va Lq.length vc, .agg #[I6 l[q].kind, I6 l[q].num, .slice sa l[q].kids.length sc], .slice vb (pl + 1) vd, .bool rd] W (PlPost base (Lq ++ plcOf rd ((l[q]).nodesFrom (p ++ [(.mk k n l, q)]))) (Value.slice va Lq.length vc).ownBlock W)) := tuck fun W vb vd hb hx => by
     have h1 := HIH.out q hlt l[q].kind l[q].num (p ++ [(.mk k n l, q)]) Lq W (.slice va Lq.length vc) (.slice sa l[q].kids.length sc) (.slice vb (pl + 1) vd) (by rw [Tm.eta]; exact hkids q hlt) (by rw [List.length_append, List.length_singleton]; omega) (by omega) (HROW.out.below hb) (Nat.le_trans (Nat.le_trans hbase (by omega)) hb.size) ((hk1 _ _ hs0).below hb) (by rw [List.length_append, List.length_singleton, HPLN.out]; exact hx)
     rwa [Tm.eta] at h1
    have HREL : Hid (∀ W e W13, Below wr.heap.size wr W → PlPost base (Lq ++ plcOf rd ((l[q]).nodesFrom (p ++ [(.mk k n l, q)]))) (Value.slice va Lq.length vc).ownBlock W e W13 → ∃ (L13 : List ((Int → Int) × Nat)) (va13 : Option Addr) (vc13 : Nat), e = .returned (.slice va13 L13.length vc13) ∧ L13 ++ plcOf rd (kidsFrom (.mk k n l) (l.drop (q + 1)) (q + 1) p) = TOT ∧ L13.length ≤ L.length + 1 + sizes (l.take (q + 1)) ∧ w.grownBy W13 OWN ∧ VarAt w.heap.size k n (.slice (some ⟨bb, o, none⟩) l.length c) W13 ∧ RowP base L13 (.slice va13 L13.length vc13) W13 ∧ ((Value.slice va13 L13.length vc13).ownBlock = OWN ∨ ∃ g, (Value.slice va13 L13.length vc13).ownBlock = some g ∧ w.heap.size + 1 ≤ g) ∧ w.heap.size + 1 ≤ W13.heap.size ∧ (fun w' : World => (w.heap.size < w'.heap.size ∧ bb < w'.heap.size) ∧ w'.cell? ⟨w.heap.size, 2, none⟩ = some (.slice (some ⟨bb, o, none⟩) l.length c) ∧ w'.cell? ⟨bb, o + q * 3, none⟩ = some (I6 l[q].kind) ∧ w'.cell? ⟨bb, o + q * 3 + 1, none⟩ = some (I6 l[q].num) ∧ w'.cell? ⟨bb, o + q * 3 + 2, none⟩ = some (.slice sa l[q].kids.length sc)) W13) := tuck fun W e W13 hb hp => by
     obtain ⟨hgw, v13, rfl, hr13, ho13⟩ := hp
     obtain ⟨va13, vc13, rfl⟩ := hr13.form
     have hg1 := grown_below hb hgw
     refine ⟨_, va13, vc13, rfl, HT2.out, by rw [List.length_append]; omega, grown_two HG.out hg1 (HO.out.imp id (fun ⟨g, h1, h2⟩ => ⟨g, h1, by omega⟩)), HV.out.grown hg1 (fun e => by
      rcases HO.out with h4 | ⟨g, h4, h5⟩
      ·rw [h4, HOWN.out] at e
       have := (HROW0.out.lt _ e.symm).2
       omega
      ·rw [h4] at e; injection e with e; omega), hr13, ?_, Nat.le_trans hz hg1.size, ⟨Nat.lt_of_lt_of_le z0 hg1.size, Nat.lt_of_lt_of_le hbr hg1.size⟩, (World.cell?_of_block (a := ⟨w.heap.size, 2, none⟩) (hg1.block _ z0 (hwo ()))).trans a2, (World.cell?_of_block (a := ⟨bb, o + q * 3, none⟩) (hg1.block _ hbr (fun e => hbo e.symm))).trans c0, (World.cell?_of_block (a := ⟨bb, o + q * 3 + 1, none⟩) (hg1.block _ hbr (fun e => hbo e.symm))).trans c1, (World.cell?_of_block (a := ⟨bb, o + q * 3 + 2, none⟩) (hg1.block _ hbr (fun e => hbo e.symm))).trans c2⟩
     rcases ho13 with h4 | ⟨g, h4, h5⟩
     ·rw [h4]; exact HO.out
     ·exact Or.inr ⟨g, h4, by have := hb.size; omega⟩
    have HOLD : Hid (∀ (T : Tm), T = l[q] → ∀ w', Below wr.heap.size wr w' → (fun w' : World => (w.heap.size < w'.heap.size ∧ bb < w'.heap.size) ∧ w'.cell? ⟨w.heap.size, 2, none⟩ = some (.slice (some ⟨bb, o, none⟩) l.length c) ∧ w'.cell? ⟨bb, o + q * 3, none⟩ = some (I6 T.kind) ∧ w'.cell? ⟨bb, o + q * 3 + 1, none⟩ = some (I6 T.num) ∧ w'.cell? ⟨bb, o + q * 3 + 2, none⟩ = some (.slice sa T.kids.length sc)) w') := tuck fun T hT w' h => by
     subst hT
     exact ⟨⟨(HV.out.below h).facts.1, Nat.lt_of_lt_of_le hbr h.size⟩, (HV.out.below h).facts.2.2.2.1, (h.cell (p := ⟨bb, o + q * 3, none⟩) hbr).trans c0, (h.cell (p := ⟨bb, o + q * 3 + 1, none⟩) hbr).trans c1, (h.cell (p := ⟨bb, o + q * 3 + 2, none⟩) hbr).trans c2⟩
    have HOLD := tuck (HOLD.out _ rfl)
    have HE : Hid (∀ (W : World), wr.heap.size ≤ W.heap.size → (W.alloc (.cells #[] 3)).ownsRow wr.heap.size 3 1 (.slice (some ⟨W.heap.size, 0, none⟩) 0 0) 0 []) := tuck fun W h => World.ownsRow_made (base := wr.heap.size) (e := 3) (size := 1) W #[] 0 h (by simp [maxLen]) rfl
    have HKP : Hid (∀ (W W' : World) (g : Nat), W.ownsRow wr.heap.size 3 1 (.slice (some ⟨g, 0, none⟩) 0 0) 0 [] → Below W.heap.size W W' → W'.ownsRow wr.heap.size 3 1 (.slice (some ⟨g, 0, none⟩) 0 0) 0 []) := tuck fun W W' g h hb => h.kept (grown_none hb) (Classical.em _)
    have HA1 : Hid (∀ (W : World) (g : Nat), Below wr.heap.size wr W → W.ownsRow wr.heap.size 3 1 (.slice (some ⟨g, 0, none⟩) 0 0) 0 [] → ∃ va1 vc1 W1, (Builtin.append_ #[28, 28] 28 #[.slice (some ⟨g, 0, none⟩) 0 0, .slice pa pl pc]).run Tryz.prog W = .ok (.slice va1 pl vc1) W1 ∧ W1.ownsRow wr.heap.size 3 1 (.slice va1 pl vc1) pl (cellsN (ixAt p) pl) ∧ Below wr.heap.size wr W1 ∧ W.grownBy W1 (some g) ∧ ((Value.slice va1 pl vc1).ownBlock = some g ∨ (Value.slice va1 pl vc1).ownBlock = some W.heap.size)) := tuck fun W g hb hr => by
     have hgl := hr.lt g rfl
     have hx : IsX W (fun i => (Value.slice (some ⟨g, 0, none⟩) 0 0).ownBlock = some i) (ixAt p) pl (.slice pa pl pc) := by
      rw [← HPLN.out]
      exact (hvp1.to fun b h1 h2 => ⟨fun h3 => by (have h4 : g = b := (by simpa [Value.ownBlock] using h3)); have := hgl.1; omega, h2, fun _ => rfl⟩).below hb
     obtain ⟨v1, W1, h1, h2, h3, h4⟩ := ints_append (N := ixAt p) (n := 0) (by simpa [cellsN] using hr) hx hb.size (by have := HPLN.out; omega)
     rw [Nat.zero_add] at h2
     have h2f := ownN_isX (X := fun _ => False) h2 (fun _ h => h.elim)
     obtain ⟨va1, vc1, rfl⟩ := h2f.form
     refine ⟨va1, vc1, W1, h1, ?_, hb.grown h3 hb.size (fun k hk => (hr.lt k hk).1), h3, h4⟩
     rw [show cellsN (ixAt p) pl = cellsN (thenN (ixAt p) 0 (ixAt p)) pl by
      apply List.ext_getElem?
      intro j
      rcases Nat.lt_or_ge j pl with hj | hj
      ·rw [cellsN_get hj, cellsN_get hj]
       unfold thenN
       rw [if_neg (by omega)]
       simp
      ·rw [List.getElem?_eq_none (by rw [cellsN_len]; exact hj), List.getElem?_eq_none (by rw [cellsN_len]; exact hj)]]
     exact h2
    have HA2 : Hid (∀ (W : World) (va1 : Option Addr) (vc1 h : Nat), Below wr.heap.size wr W → W.ownsRow wr.heap.size 3 1 (.slice va1 pl vc1) pl (cellsN (ixAt p) pl) → W.heap[h]? = some (.cells #[I6 (q : Int)] 3 (0, 0)) → wr.heap.size ≤ h → (Value.slice va1 pl vc1).ownBlock ≠ some h → ∃ vb vd W2, (Builtin.append_ #[28, 28] 28 #[.slice va1 pl vc1, .slice (some ⟨h, 0, none⟩) 1 1]).run Tryz.prog W = .ok (.slice vb (pl + 1) vd) W2 ∧ IsX W2 (fun i => (Value.slice va Lq.length vc).ownBlock = some i) (ixAt (p ++ [(.mk k n l, q)])) (pl + 1) (.slice vb (pl + 1) vd) ∧ Below wr.heap.size wr W2) := tuck fun W va1 vc1 h hb hr hz hh hne => by
     obtain ⟨zz, zc, -⟩ := block_of_cells hz
     have hx : IsX W (fun i => (Value.slice va1 pl vc1).ownBlock = some i) (fun _ => (q : Int)) 1 (.slice (some ⟨h, 0, none⟩) 1 1) := ⟨_, _, h, 0, rfl, Nat.le_refl _, fun _ => ⟨rfl, hne, zz⟩, fun i hi => by
      have : i = 0 := by omega
      subst this
      exact zc 0⟩
     obtain ⟨v2, W2, h1, h2, h3, h4⟩ := ints_append (N := ixAt p) (n := pl) hr hx hb.size (by have := HPLN.out; omega)
     have h2f := ownN_isX (X := fun i => (Value.slice va Lq.length vc).ownBlock = some i) h2 (fun i hi => (hobs i hi).2)
     obtain ⟨vb, vd, rfl⟩ := h2f.form
     refine ⟨vb, vd, W2, h1, h2f.congr fun j hj => ?_, hb.grown h3 hb.size (fun k hk => (hr.lt k hk).1)⟩
     rw [ixAt_snoc p _ q j (by have := HPLN.out; omega), HPLN.out]
     unfold thenN
     by_cases hjp : j < pl
     ·rw [if_pos hjp, if_pos (by omega)]
     ·rw [if_neg hjp, if_neg (by omega)]
    clear hwo hbo hlm hkids HB0 HV0 HC HPP HIH HT2 HTOT hkeep hk1 hvp1 hT2 hbe hbr hdrop HV hsz hszt hgt hge hse hplen hobs hs0 HRW HG HO HROW HS HVP HRD HCND HL1 HLE1 hdp hcn hlq hz hbx hbw
    generalize l[q] = T at *
    go_upto_region 6 with fail
    refine AnyTwo.begin (fun w' : World => (w.heap.size < w'.heap.size ∧ bb < w'.heap.size) ∧ w'.cell? ⟨w.heap.size, 2, none⟩ = some (.slice (some ⟨bb, o, none⟩) l.length c) ∧ w'.cell? ⟨bb, o + q * 3, none⟩ = some (I6 T.kind) ∧ w'.cell? ⟨bb, o + q * 3 + 1, none⟩ = some (I6 T.num) ∧ w'.cell? ⟨bb, o + q * 3 + 2, none⟩ = some (.slice sa T.kids.length sc)) (fun _ => True) 14 (by kernel_rfl) ?_
    have hBB : Hid (Below wr.heap.size wr wr.drew) := tuck (Below.refl _ _).drew
    have hS1 : (fun w' : World => (w.heap.size < w'.heap.size ∧ bb < w'.heap.size) ∧ w'.cell? ⟨w.heap.size, 2, none⟩ = some (.slice (some ⟨bb, o, none⟩) l.length c) ∧ w'.cell? ⟨bb, o + q * 3, none⟩ = some (I6 T.kind) ∧ w'.cell? ⟨bb, o + q * 3 + 1, none⟩ = some (I6 T.num) ∧ w'.cell? ⟨bb, o + q * 3 + 2, none⟩ = some (.slice sa T.kids.length sc)) wr.drew := HOLD.out _ hBB.out
    refine AnyTwo.take (i := 0) (oi := ⟨some 30, _, _, _, _, _⟩) (v := ?vt0) rfl (by kernel_rfl) (by kernel_rfl) (by decide +kernel) (by kernel_rfl) (by rfl) (by kernel_rfl) (fun _ _ _ h => h) (Or.inl ⟨by rfl, ?yt0⟩) hS1 ?rt0
    case yt0 => (intro w hSw; (try dsimp only at hSw); go_simp; try (with_reducible rfl))
    try simp only [pts]
    refine AnyTwo.take (i := 1) (oi := ⟨some 31, _, _, _, _, _⟩) (v := ?vt1) rfl (by kernel_rfl) (by kernel_rfl) (by decide +kernel) (by kernel_rfl) (by rfl) (by kernel_rfl) (fun _ _ _ h => h) (Or.inl ⟨by rfl, ?yt1⟩) hS1 ?rt1
    case yt1 => (intro w hSw; (try dsimp only at hSw); go_simp; try (with_reducible rfl))
    try simp only [pts]
    refine AnyTwo.take (i := 2) (oi := ⟨some 32, _, _, _, _, _⟩) (v := ?vt2) rfl (by kernel_rfl) (by kernel_rfl) (by decide +kernel) (by kernel_rfl) (by rfl) (by kernel_rfl) (fun _ _ _ h => h) (Or.inl ⟨by rfl, ?yt2⟩) hS1 ?rt2
    case yt2 => (intro w hSw; (try dsimp only at hSw); go_simp; try (with_reducible rfl))
    try simp only [pts]
    refine AnyTwo.take (i := 3) (oi := ⟨some 33, _, _, _, _, _⟩) (v := ?vt3) rfl (by kernel_rfl) (by kernel_rfl) (by decide +kernel) (by kernel_rfl) (by rfl) (by kernel_rfl) (fun _ _ _ h => h) (Or.inl ⟨by rfl, ?yt3⟩) hS1 ?rt3
    case yt3 => (intro w hSw; (try dsimp only at hSw); go_simp; try (with_reducible rfl))
    try simp only [pts]
    refine AnyTwo.take (i := 4) (oi := ⟨some 34, _, _, _, _, _⟩) (v := ?vt4) rfl (by kernel_rfl) (by kernel_rfl) (by decide +kernel) (by kernel_rfl) (by rfl) (by kernel_rfl) (fun _ _ _ h => h) (Or.inl ⟨by rfl, ?yt4⟩) hS1 ?rt4
    case yt4 => (intro w hSw; (try dsimp only at hSw); go_simp; try (with_reducible rfl))
    try simp only [pts]
    refine AnyTwo.take (i := 5) (oi := ⟨some 35, _, _, _, _, _⟩) (v := ?vt5) rfl (by kernel_rfl) (by kernel_rfl) (by decide +kernel) (by kernel_rfl) (by rfl) (by kernel_rfl) (fun _ _ _ h => h) (Or.inl ⟨by rfl, ?yt5⟩) hS1 ?rt5
    case yt5 => (intro w hSw; (try dsimp only at hSw); go_simp; try (with_reducible rfl))
    try simp only [pts]
    refine AnyTwo.take (i := 7) (oi := ⟨some 37, _, _, _, _, _⟩) (v := ?vt7) rfl (by kernel_rfl) (by kernel_rfl) (by decide +kernel) (by kernel_rfl) (by rfl) (by kernel_rfl) (fun _ _ _ h => h) (Or.inl ⟨by rfl, ?yt7⟩) hS1 ?rt7
    case yt7 => (intro w hSw; (try dsimp only at hSw); go_simp; try (with_reducible rfl))
    try simp only [pts]
    refine AnyTwo.take (i := 9) (oi := ⟨some 39, _, _, _, _, _⟩) (v := ?vt9) rfl (by kernel_rfl) (by kernel_rfl) (by decide +kernel) (by kernel_rfl) (by rfl) (by kernel_rfl) (fun _ _ _ h => h) (Or.inl ⟨by rfl, ?yt9⟩) hS1 ?rt9
    case yt9 => (intro w hSw; (try dsimp only at hSw); go_simp; try (with_reducible rfl))
    try simp only [pts]
    refine AnyTwo.take (i := 12) (oi := ⟨some 42, _, _, _, _, _⟩) (v := ?vt12) rfl (by kernel_rfl) (by kernel_rfl) (by decide +kernel) (by kernel_rfl) (by rfl) (by kernel_rfl) (fun _ _ _ h => h) (Or.inl ⟨by rfl, ?yt12⟩) hS1 ?rt12
    case yt12 => (intro w hSw; (try dsimp only at hSw); go_simp; try (with_reducible rfl))
    try simp only [pts]
    refine AnyTwo.fork (i := 6) (o := ⟨some 36, _, _, _, _, _⟩) (j := 10) (o' := ⟨some 40, _, _, _, _, _⟩) (by kernel_rfl) rfl rfl (fun K hK => ?_) (fun K hK => ?_)
    ·go_simp
     have e0 : (wr.alloc (.cells #[] 3)).drew.ownsRow wr.heap.size 3 1 (.slice (some ⟨wr.heap.size, 0, none⟩) 0 0) 0 [] := HKP.out _ _ _ (HE.out wr (Nat.le_refl _)) (Below.refl _ _).drew
     clear hBB
     have hBB := tuck ((below1 wr (.cells #[] 3)).drew)
     have hS1' : (fun w' : World => (w.heap.size < w'.heap.size ∧ bb < w'.heap.size) ∧ w'.cell? ⟨w.heap.size, 2, none⟩ = some (.slice (some ⟨bb, o, none⟩) l.length c) ∧ w'.cell? ⟨bb, o + q * 3, none⟩ = some (I6 T.kind) ∧ w'.cell? ⟨bb, o + q * 3 + 1, none⟩ = some (I6 T.num) ∧ w'.cell? ⟨bb, o + q * 3 + 2, none⟩ = some (.slice sa T.kids.length sc)) _ := HOLD.out _ hBB.out
     refine hK.out _ _ (ph_one (by kernel_rfl) hS1') ?_
     clear hK K hS1
     have hS1 := hS1'
     clear hS1'
     try simp only [pts]
     refine AnyTwo.fork (i := 8) (o := ⟨some 38, _, _, _, _, _⟩) (j := 10) (o' := ⟨some 40, _, _, _, _, _⟩) (by kernel_rfl) rfl rfl (fun K hK => ?_) (fun K hK => ?_)
     ·skip
      obtain ⟨va1, vc1, W1, h8, r8, b8, g8, f8⟩ := HA1.out _ _ hBB.out e0
      rw [if_pos (by kernel_rfl)]
      refine Go.Lib.wp_append_run _ _ _ _ _ rfl _ _ rfl rfl _ _ h8 ?_
      clear hBB
      have hBB := tuck (b8)
      have hS1' : (fun w' : World => (w.heap.size < w'.heap.size ∧ bb < w'.heap.size) ∧ w'.cell? ⟨w.heap.size, 2, none⟩ = some (.slice (some ⟨bb, o, none⟩) l.length c) ∧ w'.cell? ⟨bb, o + q * 3, none⟩ = some (I6 T.kind) ∧ w'.cell? ⟨bb, o + q * 3 + 1, none⟩ = some (I6 T.num) ∧ w'.cell? ⟨bb, o + q * 3 + 2, none⟩ = some (.slice sa T.kids.length sc)) _ := HOLD.out _ hBB.out
      refine hK.out _ _ (ph_one (by kernel_rfl) hS1') ?_
      clear hK K hS1
      have hS1 := hS1'
      clear hS1'
      try simp only [pts]
      refine AnyTwo.step (i := 10) (o := ⟨some 40, _, _, _, _, _⟩) (by kernel_rfl) rfl (fun K hK => ?_)
      go_simp
      have z10 := heap_new W1 (.cells #[I6 (q : Int)] 3)
      have n10 : (Value.slice va1 pl vc1).ownBlock ≠ some W1.heap.size := fun e => by have := (r8.lt _ e).2; omega
      have r10 := r8.kept (grown_none (below1 W1 (.cells #[I6 (q : Int)] 3))) (by cases (Value.slice va1 pl vc1).ownBlock <;> simp)
      clear hBB
      have hBB := tuck ((bAfter b8 (below1 W1 (.cells #[I6 (q : Int)] 3))))
      have hS1' : (fun w' : World => (w.heap.size < w'.heap.size ∧ bb < w'.heap.size) ∧ w'.cell? ⟨w.heap.size, 2, none⟩ = some (.slice (some ⟨bb, o, none⟩) l.length c) ∧ w'.cell? ⟨bb, o + q * 3, none⟩ = some (I6 T.kind) ∧ w'.cell? ⟨bb, o + q * 3 + 1, none⟩ = some (I6 T.num) ∧ w'.cell? ⟨bb, o + q * 3 + 2, none⟩ = some (.slice sa T.kids.length sc)) _ := HOLD.out _ hBB.out
      refine hK.out _ _ (ph_one (by kernel_rfl) hS1') ?_
      clear hK K hS1
      have hS1 := hS1'
      clear hS1'
      try simp only [pts]
      obtain ⟨vb, vd, W2, h11, x11, b11⟩ := HA2.out _ _ _ _ hBB.out r10 z10 b8.size n10
      refine AnyTwo.step (i := 11) (o := ⟨some 41, _, _, _, _, _⟩) (by kernel_rfl) rfl (fun K hK => ?_)
      rw [if_pos (by kernel_rfl)]
      refine Go.Lib.wp_append_run _ _ _ _ _ rfl _ _ rfl rfl _ _ h11 ?_
      clear hBB
      have hBB := tuck (b11)
      have hS1' : (fun w' : World => (w.heap.size < w'.heap.size ∧ bb < w'.heap.size) ∧ w'.cell? ⟨w.heap.size, 2, none⟩ = some (.slice (some ⟨bb, o, none⟩) l.length c) ∧ w'.cell? ⟨bb, o + q * 3, none⟩ = some (I6 T.kind) ∧ w'.cell? ⟨bb, o + q * 3 + 1, none⟩ = some (I6 T.num) ∧ w'.cell? ⟨bb, o + q * 3 + 2, none⟩ = some (.slice sa T.kids.length sc)) _ := HOLD.out _ hBB.out
      refine hK.out _ _ (ph_one (by kernel_rfl) hS1') ?_
      clear hK K hS1
      have hS1 := hS1'
      clear hS1'
      try simp only [pts]
      refine AnyTwo.step (i := 13) (o := ⟨some 43, _, _, _, _, _⟩) (by kernel_rfl) rfl (fun K hK => ?_)
      go_simp
      refine (HCALL.out _ _ _ b11 x11).mono ?_
      rintro e W13 hpost
      obtain ⟨L13, va13, vc13, rfl, r1, r2, r3, r4, r5, r6, r7, r8⟩ := HREL.out _ _ _ b11 hpost
      refine hK.out _ _ (ph_one (by kernel_rfl) r8) ?_
      clear hK K
      try simp only [pts]
      refine AnyTwo.step (i := 14) (o := ⟨some 0, _, _, _, _, _⟩) (by kernel_rfl) rfl (fun K hK => ?_)
      go_simp
      refine hK.out _ _ (ph_end (by kernel_rfl) trivial) ?_
      clear hK K
      try simp only [pts]
      refine AnyTwo.done (by kernel_rfl) ?_ _
      go_wp2_with fail
      go_roundw
      case rel => exact ⟨q + 1, L13, va13, vc13, by omega, r1, r2, rfl, by go_num, r3, r4, r5, r6, r7⟩
      case measure => simp [intOf]; omega
     ·go_simp
      have e1 : ((wr.alloc (.cells #[] 3)).alloc (.cells #[I6 (q : Int)] 3)).drew.ownsRow wr.heap.size 3 1 (.slice (some ⟨wr.heap.size, 0, none⟩) 0 0) 0 [] := HKP.out _ _ _ (HE.out wr (Nat.le_refl _)) ((below1 (wr.alloc (.cells #[] 3)) (.cells #[I6 (q : Int)] 3)).drew)
      have hzW : ((wr.alloc (.cells #[] 3)).alloc (.cells #[I6 (q : Int)] 3)).drew.heap.size = wr.heap.size + 2 := (by show ((wr.alloc (.cells #[] 3)).alloc (.cells #[I6 (q : Int)] 3)).heap.size = _; simp)
      have z1 : ((wr.alloc (.cells #[] 3)).alloc (.cells #[I6 (q : Int)] 3)).drew.heap[wr.heap.size + 1]? = some _ := (by have := heap_new (wr.alloc (.cells #[] 3)) (.cells #[I6 (q : Int)] 3); rwa [show (wr.alloc (.cells #[] 3)).heap.size = wr.heap.size + 1 by simp] at this)
      clear hBB
      have hBB := tuck ((below2 wr (.cells #[] 3) (.cells #[I6 (q : Int)] 3)).drew)
      have hS1' : (fun w' : World => (w.heap.size < w'.heap.size ∧ bb < w'.heap.size) ∧ w'.cell? ⟨w.heap.size, 2, none⟩ = some (.slice (some ⟨bb, o, none⟩) l.length c) ∧ w'.cell? ⟨bb, o + q * 3, none⟩ = some (I6 T.kind) ∧ w'.cell? ⟨bb, o + q * 3 + 1, none⟩ = some (I6 T.num) ∧ w'.cell? ⟨bb, o + q * 3 + 2, none⟩ = some (.slice sa T.kids.length sc)) _ := HOLD.out _ hBB.out
      refine hK.out _ _ (ph_one (by kernel_rfl) hS1') ?_
      clear hK K hS1
      have hS1 := hS1'
      clear hS1'
      try simp only [pts]
      obtain ⟨va1, vc1, W1, h8, r8, b8, g8, f8⟩ := HA1.out _ _ hBB.out e1
      refine AnyTwo.step (i := 8) (o := ⟨some 38, _, _, _, _, _⟩) (by kernel_rfl) rfl (fun K hK => ?_)
      rw [if_pos (by kernel_rfl)]
      refine Go.Lib.wp_append_run _ _ _ _ _ rfl _ _ rfl rfl _ _ h8 ?_
      clear hBB
      have hBB := tuck (b8)
      have hS1' : (fun w' : World => (w.heap.size < w'.heap.size ∧ bb < w'.heap.size) ∧ w'.cell? ⟨w.heap.size, 2, none⟩ = some (.slice (some ⟨bb, o, none⟩) l.length c) ∧ w'.cell? ⟨bb, o + q * 3, none⟩ = some (I6 T.kind) ∧ w'.cell? ⟨bb, o + q * 3 + 1, none⟩ = some (I6 T.num) ∧ w'.cell? ⟨bb, o + q * 3 + 2, none⟩ = some (.slice sa T.kids.length sc)) _ := HOLD.out _ hBB.out
      refine hK.out _ _ (ph_one (by kernel_rfl) hS1') ?_
      clear hK K hS1
      have hS1 := hS1'
      clear hS1'
      try simp only [pts]
      have z8 := (g8.block (wr.heap.size + 1) (block_of_cells z1).1 (by simp)).trans z1
      have n10 : (Value.slice va1 pl vc1).ownBlock ≠ some (wr.heap.size + 1) := fun e => by rcases f8 with f8 | f8 <;> (rw [f8] at e; injection e with e; omega)
      obtain ⟨vb, vd, W2, h11, x11, b11⟩ := HA2.out _ _ _ _ hBB.out r8 z8 (Nat.le_succ _) n10
      refine AnyTwo.step (i := 11) (o := ⟨some 41, _, _, _, _, _⟩) (by kernel_rfl) rfl (fun K hK => ?_)
      rw [if_pos (by kernel_rfl)]
      refine Go.Lib.wp_append_run _ _ _ _ _ rfl _ _ rfl rfl _ _ h11 ?_
      clear hBB
      have hBB := tuck (b11)
      have hS1' : (fun w' : World => (w.heap.size < w'.heap.size ∧ bb < w'.heap.size) ∧ w'.cell? ⟨w.heap.size, 2, none⟩ = some (.slice (some ⟨bb, o, none⟩) l.length c) ∧ w'.cell? ⟨bb, o + q * 3, none⟩ = some (I6 T.kind) ∧ w'.cell? ⟨bb, o + q * 3 + 1, none⟩ = some (I6 T.num) ∧ w'.cell? ⟨bb, o + q * 3 + 2, none⟩ = some (.slice sa T.kids.length sc)) _ := HOLD.out _ hBB.out
      refine hK.out _ _ (ph_one (by kernel_rfl) hS1') ?_
      clear hK K hS1
      have hS1 := hS1'
      clear hS1'
      try simp only [pts]
      refine AnyTwo.step (i := 13) (o := ⟨some 43, _, _, _, _, _⟩) (by kernel_rfl) rfl (fun K hK => ?_)
      go_simp
      refine (HCALL.out _ _ _ b11 x11).mono ?_
      rintro e W13 hpost
      obtain ⟨L13, va13, vc13, rfl, r1, r2, r3, r4, r5, r6, r7, r8⟩ := HREL.out _ _ _ b11 hpost
      refine hK.out _ _ (ph_one (by kernel_rfl) r8) ?_
      clear hK K
      try simp only [pts]
      refine AnyTwo.step (i := 14) (o := ⟨some 0, _, _, _, _, _⟩) (by kernel_rfl) rfl (fun K hK => ?_)
      go_simp
      refine hK.out _ _ (ph_end (by kernel_rfl) trivial) ?_
      clear hK K
      try simp only [pts]
      refine AnyTwo.done (by kernel_rfl) ?_ _
      go_wp2_with fail
      go_roundw
      case rel => exact ⟨q + 1, L13, va13, vc13, by omega, r1, r2, rfl, by go_num, r3, r4, r5, r6, r7⟩
      case measure => simp [intOf]; omega
    ·go_simp
     have z0 : (wr.alloc (.cells #[I6 (q : Int)] 3)).drew.heap[wr.heap.size]? = some _ := heap_new wr (.cells #[I6 (q : Int)] 3)
     clear hBB
     have hBB := tuck ((below1 wr (.cells #[I6 (q : Int)] 3)).drew)
     have hS1' : (fun w' : World => (w.heap.size < w'.heap.size ∧ bb < w'.heap.size) ∧ w'.cell? ⟨w.heap.size, 2, none⟩ = some (.slice (some ⟨bb, o, none⟩) l.length c) ∧ w'.cell? ⟨bb, o + q * 3, none⟩ = some (I6 T.kind) ∧ w'.cell? ⟨bb, o + q * 3 + 1, none⟩ = some (I6 T.num) ∧ w'.cell? ⟨bb, o + q * 3 + 2, none⟩ = some (.slice sa T.kids.length sc)) _ := HOLD.out _ hBB.out
     refine hK.out _ _ (ph_one (by kernel_rfl) hS1') ?_
     clear hK K hS1
     have hS1 := hS1'
     clear hS1'
     try simp only [pts]
     refine AnyTwo.step (i := 6) (o := ⟨some 36, _, _, _, _, _⟩) (by kernel_rfl) rfl (fun K hK => ?_)
     go_simp
     have e1 : ((wr.alloc (.cells #[I6 (q : Int)] 3)).alloc (.cells #[] 3)).drew.ownsRow wr.heap.size 3 1 (.slice (some ⟨wr.heap.size + 1, 0, none⟩) 0 0) 0 [] := (by have := HE.out (wr.alloc (.cells #[I6 (q : Int)] 3)) (below1 wr (.cells #[I6 (q : Int)] 3)).size; rw [show (wr.alloc (.cells #[I6 (q : Int)] 3)).heap.size = wr.heap.size + 1 by simp] at this; exact HKP.out _ _ _ this (Below.refl _ _).drew)
     have hzW : ((wr.alloc (.cells #[I6 (q : Int)] 3)).alloc (.cells #[] 3)).drew.heap.size = wr.heap.size + 2 := (by show ((wr.alloc (.cells #[I6 (q : Int)] 3)).alloc (.cells #[] 3)).heap.size = _; simp)
     have z1 : ((wr.alloc (.cells #[I6 (q : Int)] 3)).alloc (.cells #[] 3)).drew.heap[wr.heap.size]? = some _ := ((below1 (wr.alloc (.cells #[I6 (q : Int)] 3)) (.cells #[] 3)).block wr.heap.size (by simp)).trans z0
     clear hBB
     have hBB := tuck ((below2 wr (.cells #[I6 (q : Int)] 3) (.cells #[] 3)).drew)
     have hS1' : (fun w' : World => (w.heap.size < w'.heap.size ∧ bb < w'.heap.size) ∧ w'.cell? ⟨w.heap.size, 2, none⟩ = some (.slice (some ⟨bb, o, none⟩) l.length c) ∧ w'.cell? ⟨bb, o + q * 3, none⟩ = some (I6 T.kind) ∧ w'.cell? ⟨bb, o + q * 3 + 1, none⟩ = some (I6 T.num) ∧ w'.cell? ⟨bb, o + q * 3 + 2, none⟩ = some (.slice sa T.kids.length sc)) _ := HOLD.out _ hBB.out
     refine hK.out _ _ (ph_one (by kernel_rfl) hS1') ?_
     clear hK K hS1
     have hS1 := hS1'
     clear hS1'
     try simp only [pts]
     obtain ⟨va1, vc1, W1, h8, r8, b8, g8, f8⟩ := HA1.out _ _ hBB.out e1
     refine AnyTwo.step (i := 8) (o := ⟨some 38, _, _, _, _, _⟩) (by kernel_rfl) rfl (fun K hK => ?_)
     rw [if_pos (by kernel_rfl)]
     refine Go.Lib.wp_append_run _ _ _ _ _ rfl _ _ rfl rfl _ _ h8 ?_
     clear hBB
     have hBB := tuck (b8)
     have hS1' : (fun w' : World => (w.heap.size < w'.heap.size ∧ bb < w'.heap.size) ∧ w'.cell? ⟨w.heap.size, 2, none⟩ = some (.slice (some ⟨bb, o, none⟩) l.length c) ∧ w'.cell? ⟨bb, o + q * 3, none⟩ = some (I6 T.kind) ∧ w'.cell? ⟨bb, o + q * 3 + 1, none⟩ = some (I6 T.num) ∧ w'.cell? ⟨bb, o + q * 3 + 2, none⟩ = some (.slice sa T.kids.length sc)) _ := HOLD.out _ hBB.out
     refine hK.out _ _ (ph_one (by kernel_rfl) hS1') ?_
     clear hK K hS1
     have hS1 := hS1'
     clear hS1'
     try simp only [pts]
     have z8 := (g8.block (wr.heap.size) (block_of_cells z1).1 (by simp)).trans z1
     have n10 : (Value.slice va1 pl vc1).ownBlock ≠ some (wr.heap.size) := fun e => by rcases f8 with f8 | f8 <;> (rw [f8] at e; injection e with e; omega)
     obtain ⟨vb, vd, W2, h11, x11, b11⟩ := HA2.out _ _ _ _ hBB.out r8 z8 (Nat.le_refl _) n10
     refine AnyTwo.step (i := 11) (o := ⟨some 41, _, _, _, _, _⟩) (by kernel_rfl) rfl (fun K hK => ?_)
     rw [if_pos (by kernel_rfl)]
     refine Go.Lib.wp_append_run _ _ _ _ _ rfl _ _ rfl rfl _ _ h11 ?_
     clear hBB
     have hBB := tuck (b11)
     have hS1' : (fun w' : World => (w.heap.size < w'.heap.size ∧ bb < w'.heap.size) ∧ w'.cell? ⟨w.heap.size, 2, none⟩ = some (.slice (some ⟨bb, o, none⟩) l.length c) ∧ w'.cell? ⟨bb, o + q * 3, none⟩ = some (I6 T.kind) ∧ w'.cell? ⟨bb, o + q * 3 + 1, none⟩ = some (I6 T.num) ∧ w'.cell? ⟨bb, o + q * 3 + 2, none⟩ = some (.slice sa T.kids.length sc)) _ := HOLD.out _ hBB.out
     refine hK.out _ _ (ph_one (by kernel_rfl) hS1') ?_
     clear hK K hS1
     have hS1 := hS1'
     clear hS1'
     try simp only [pts]
     refine AnyTwo.step (i := 13) (o := ⟨some 43, _, _, _, _, _⟩) (by kernel_rfl) rfl (fun K hK => ?_)
     go_simp
     refine (HCALL.out _ _ _ b11 x11).mono ?_
     rintro e W13 hpost
     obtain ⟨L13, va13, vc13, rfl, r1, r2, r3, r4, r5, r6, r7, r8⟩ := HREL.out _ _ _ b11 hpost
     refine hK.out _ _ (ph_one (by kernel_rfl) r8) ?_
     clear hK K
     try simp only [pts]
     refine AnyTwo.step (i := 14) (o := ⟨some 0, _, _, _, _, _⟩) (by kernel_rfl) rfl (fun K hK => ?_)
     go_simp
     refine hK.out _ _ (ph_end (by kernel_rfl) trivial) ?_
     clear hK K
     try simp only [pts]
     refine AnyTwo.done (by kernel_rfl) ?_ _
     go_wp2_with fail
     go_roundw
     case rel => exact ⟨q + 1, L13, va13, vc13, by omega, r1, r2, rfl, by go_num, r3, r4, r5, r6, r7⟩
     case measure => simp [intOf]; omega
end Go.Proofs.YtpddjebdncaceaaGreat
