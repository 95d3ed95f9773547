/-
  DuF.
-/
import Derived.Test.YtpddjebdncaceaaGreatB37
import Derived.Deep.DeepCutAuto
namespace Go.Proofs.YtpddjebdncaceaaGreat
open Go.RowKit
set_option linter.unusedVariables false
set_option linter.unusedSimpArgs false
theorem info_sc : (Tryz.prog.info? 100).map (fun i => (i.zero, i.size, i.bytes)) = some (some (.agg #[.int .i64 0, .int .i64 0, .slice none 0 0, .int .i64 0]), 4, 48) := by kernel_rfl
def UsOwn (w : World) (L : List Nat) (e : Ending) (w' : World) : Prop := Below w.heap.size w w' ∧ ∃ a c, e = .returned (.slice a L.length c) ∧ OwnN w.heap.size L.length (natAt L) (.slice a L.length c) w'
theorem OwnN.mono {b b' n : Nat} {N : Int → Int} {v : Value} {w : World} (h : OwnN b n N v w) (hb : b' ≤ b) : OwnN b' n N v w :=
 ⟨h.1, h.2.imp id fun ⟨q, cap, cur, e1, hq, rest⟩ => ⟨q, cap, cur, e1, Nat.le_trans hb hq, rest⟩⟩
theorem natAt_push (J : List Nat) (q : Nat) : ((List.range J.length).map fun j : Nat => Value.int .i64 (natAt J j)) ++ [.int .i64 (q : Int)] = (List.range (J ++ [q]).length).map fun j : Nat => Value.int .i64 (natAt (J ++ [q]) j) := by
 rw [List.length_append, List.length_singleton, List.range_succ, List.map_append]
 congr 1
 ·refine List.map_congr_left fun j hj => ?_
  have hj' : j < J.length := by simpa using hj
  rw [natAt_eq _ _ hj', natAt_eq _ _ (by simp; omega), List.getElem_append_left hj']
 ·rw [List.map_singleton, natAt_eq _ _ (by simp)]
  simp
set_option maxRecDepth 100000 in
set_option maxHeartbeats 4000000 in
theorem usedI_any (t : Tm) (r0 : List (Tm × Tm)) (h8 : r0.length ≤ 8) (w : World) (v s : Value) (hE : EnvC r0 v w) (hs : SlIn w 0 t.kids s) : Calls Tryz.prog 38 #[v, .agg #[.int .i64 t.kind, .int .i64 t.num, s]] w (UsOwn w (goU r0 [(t, r0.length)] []).reverse) := by
 obtain ⟨a, c, rfl⟩ := hs.form
 obtain ⟨pp, rfl⟩ : ∃ p, v = .pointer p := by
  cases r0 with
  | nil => exact ⟨_, hE⟩
  | cons x r => obtain ⟨g, _, _, _, hv, _⟩ := hE; exact ⟨_, hv⟩
 have HB0 := tuck (below1 w (.cells #[.int .i64 t.kind, .int .i64 t.num, .slice a t.kids.length c] 34))
 have HVT := tuck (VarAt.new w t.kind t.num (.slice a t.kids.length c))
 obtain ⟨n0, hn0⟩ : ∃ n, n = r0.length := ⟨_, rfl⟩
 have HCN : Hid (∀ W, Below w.heap.size w W → Calls Tryz.prog 70 #[.pointer pp] W (IntPost W (n0 : Nat))) := tuck fun W h => by rw [hn0]; exact envCount_any _ W _ (hE.below h).env
 have HE := tuck hE
 have HS := tuck hs
 obtain ⟨K, hK⟩ : ∃ K, K = goU r0 [(t, n0)] [] := ⟨_, rfl⟩
 rw [← hn0, ← hK]
 have HK := tuck hK
 have H8 := tuck (show n0 ≤ 8 by omega)
 have HN0 := tuck hn0
 have HP : Hid (∀ W va cc, Below w.heap.size w W → OwnN w.heap.size K.length (fun x => natAt K ((K.length : Int) - 1 - x)) (.slice va K.length cc) W → UsOwn w K.reverse (.returned (.slice va K.length cc)) W) := tuck fun W va cc hb ho => ⟨hb, va, cc, by rw [List.length_reverse], by
  rw [List.length_reverse]
  refine ho.congr fun j hj => ?_
  rw [natAt_eq _ _ (by simpa using hj), List.getElem_reverse, show (K.length : Int) - 1 - (j : Int) = ((K.length - 1 - j : Nat) : Int) by omega, natAt_eq _ _ (by omega)]⟩
 generalize UsOwn w K.reverse = post at *
 have hmf : ∀ (fn : Fn) (first cap : Array Value) (w : World), (Instr.makeFunc fn first cap).run Tryz.prog w = .ok (.func fn first cap) w := fun _ _ _ _ => rfl
 clear hE hs hK hn0 h8
 go_enter Tryz.func38, Tryz.ntmps38
 go_upto_region 2 with fail
 go_cut [6] (fun pu wx => Below w.heap.size w wx ∧ UsR w w.heap.size [((t, n0), .slice a t.kids.length c)] pu wx)
 case first =>
  obtain ⟨z0, c0, c1, c2, cf⟩ := HVT.out.facts
  go_region_with (go_at_call 70; refine (HCN.out _ (by first | exact HB0.out | exact HB0.out.drew)).mono ?_; rintro e w5 ⟨rfl, hb5⟩; obtain ⟨z1, d0, d1, d2, df⟩ := (HVT.out.below (by first | exact hb5 | exact bAfter (Below.refl _ _).drew hb5)).facts; have HB5 := tuck (bAfter (by first | exact HB0.out | exact HB0.out.drew) hb5); clear hb5)
  all_goals (go_wp2_with fail; go_meet)
  all_goals exact ⟨bAfter HB5.out (below1 w5 _), UsR.new w5 w.heap.size t n0 _ HB5.out.size w HS.out H8.out⟩
 case rest =>
 obtain ⟨hbx, hux⟩ := hcut
 obtain ⟨ua, uc, rfl⟩ := hux.form
 have HBX := tuck hbx
 have HUX := tuck hux
 clear hbx hux HVT HCN HB0
 rename World => W1
 go_wp2_with fail
 go_loopw [0, 5, 6] (fun ev jv uv wr => ∃ r L J, goU r (L.map Prod.fst) J = K ∧ EnvC r ev w ∧ OwnN w.heap.size J.length (natAt J) jv wr ∧ UsR w w.heap.size L uv wr ∧ (∀ g, jv.ownBlock = some g → uv.ownBlock ≠ some g) ∧ Below w.heap.size w wr ∧ J.length + r.length ≤ 8 ∧ L.length + r.length ≤ 9) (fun ev _ _ _ => envLen ev w)
 case atStart =>
  exact ⟨r0, [((t, n0), .slice a t.kids.length c)], [], HK.out.symm, HE.out, ⟨rfl, Or.inl ⟨rfl, rfl⟩⟩, HUX.out, fun g h => by simp [Value.ownBlock] at h, HBX.out, by have := H8.out; have := HN0.out; simp; omega, by have := H8.out; have := HN0.out; simp; omega⟩
 case round =>
  obtain ⟨r, L, J, hK, he, hj, hu, hne, hb, hl1, hl2⟩ := hrel
  have HJ := tuck hj
  have HU := tuck hu
  have HNE := tuck hne
  have HB := tuck hb
  obtain ⟨ja, jc, rfl⟩ := hj.form
  obtain ⟨va, vc, rfl⟩ := hu.form
  cases r with
  | nil =>
   have hv := (show _ = Value.pointer none from he)
   subst hv
   have e : J = K := by simpa [goU] using hK
   subst e
   clear he hK hj hu hne hb
   go_wp2_with fail
   refine (reverse_any _ (by simp at hl1; omega) _ _ HJ.out).mono ?_
   rintro e w2 ⟨rfl, ⟨gg, hg1, hg2⟩, ho⟩
   have HO := tuck ho
   have HB2 := tuck (Only.below HB.out hg2 hg1 HB.out.size)
   clear ho hg1 hg2
   first | go_end0 | skip
   go_wp2_with fail
   exact HP.out _ _ _ HB2.out HO.out
  | cons x r =>
   have HLEN := tuck he.len
   obtain ⟨g, p, s1, s2, rfl, hg, k0, k1, k2, k3, k4, k5, k6, k7, hs1, hs2, hr⟩ := he
   obtain ⟨sa, sc, rfl⟩ := hs1.form
   obtain ⟨ta, tc, rfl⟩ := hs2.form
   have HC : Hid (∀ W, Below w.heap.size w W → W.cell? ⟨g, 0, none⟩ = some (.pointer p) ∧ W.cell? ⟨g, 4, none⟩ = some (.int .i64 x.2.kind) ∧ W.cell? ⟨g, 5, none⟩ = some (.int .i64 x.2.num) ∧ W.cell? ⟨g, 6, none⟩ = some (.slice ta x.2.kids.length tc) ∧ W.cell? ⟨g, 7, none⟩ = some (.int .i64 (r.length + 1 : Nat))) := tuck fun W h =>
    have hk : ∀ j, _ := fun j => h.cell (p := ⟨g, j, none⟩) hg
    ⟨(hk 0).trans k0, (hk 4).trans k4, (hk 5).trans k5, (hk 6).trans k6, (hk 7).trans k7⟩
   have HR := tuck hr
   have HS2 := tuck hs2
   obtain ⟨m0, m4, m5, m6, m7⟩ := HC.out _ HB.out
   obtain ⟨q, hq⟩ : ∃ q, q = r.length := ⟨_, rfl⟩
   have hq8 : q ≤ 8 := by simp at hl1; omega
   have hq8' : r.length ≤ 8 := by simp at hl1; omega
   rw [← hq] at m7
   have hwq : IntKind.i64.wrap (((q + 1 : Nat) : Int) - 1) = (q : Int) := by rw [show ((q + 1 : Nat) : Int) - 1 = (q : Int) by omega]; exact IntWalk.i64_in _ (by omega)
   clear k0 k1 k2 k3 k4 k5 k6 k7 hs1 hs2 hr hj hu hne hb
   go_wp2_with fail
   have hbi := below1 wr (.cells #[.int .i64 (r.length : Int)] 3)
   obtain ⟨hi1, hi2, hi3⟩ := block_of_cells (heap_new wr (.cells #[.int .i64 (r.length : Int)] 3))
   obtain ⟨bb, hbb⟩ : ∃ b, b = (L.map Prod.fst).any (scUse (r.length : Int)) := ⟨_, rfl⟩
   have hcn := scContains_any (L.map Prod.fst) (r.length : Int) wr.heap.size (by omega) (by omega) _ _ ((HU.out.below hbi).scIn (bAfter HB.out hbi)) hi1 (hi2 0)
   rw [← hbb] at hcn
   refine hcn.mono ?_
   rintro e w3 ⟨rfl, hb3⟩
   have hbw := bAfter hbi hb3
   have HB3 := tuck (bAfter HB.out hbw)
   have HJ3 := tuck (HJ.out.below hbw)
   have HU3 := tuck (HU.out.below hbw)
   have HI3 := tuck (show w3.heap[wr.heap.size]? = some (.cells #[.int .i64 (r.length : Int)] 3 (0, 0)) from (hb3.block _ hi1).trans (heap_new _ _))
   have HSZ := tuck (show wr.heap.size < w3.heap.size from Nat.lt_of_lt_of_le hi1 hb3.size)
   have hK2 := hK
   unfold goU at hK2
   rw [← hbb] at hK2
   clear hK hcn hbb hbi hi1 hi2 hi3 hb3 hbw m0 m4 m5 m6 m7
   obtain ⟨m0, m4, m5, m6, m7⟩ := HC.out _ HB3.out
   cases bb with
   | false =>
    have HK2 := tuck (show goU r (L.map Prod.fst) J = K by simpa using hK2)
    clear hK2
    go_wp2_with fail
    go_roundw
    case rel => exact ⟨r, L, J, HK2.out, HR.out, HJ3.out, HU3.out, HNE.out, HB3.out, by simp at hl1; omega, by simp at hl2; omega⟩
    case measure => rw [HR.out.len]; have := HLEN.out; simp at this ⊢; omega
   | true =>
    have HK2 := tuck (show goU r ((L ++ [((x.2, r.length), Value.slice ta x.2.kids.length tc)]).map Prod.fst) (J ++ [r.length]) = K by simpa using hK2)
    clear hK2
    obtain ⟨i0, hi, hz0, hz1, hz2'⟩ := info_parts info_int
    have hq4 : J.length + 1 ≤ maxLen := by unfold maxLen; simp at hl1; omega
    have hqb : (J.length + 1) * 8 ≤ 140737488355328 := by simp at hl1; omega
    obtain ⟨-, e2, e3⟩ := block_of_cells HI3.out
    have ei := e2 0
    have ei' : w3.cell? ⟨wr.heap.size, 0, none⟩ = some (.int .i64 (r.length : Int)) := ei
    clear ei e2 e3
    go_wp2_with (at_builtin; refine wpList_append_lies _ rfl _ _ _ rfl w.heap.size 3 i0 _ 1 8 Tryz.underlying28 hi hz0 hz1 hz2' rfl (by omega) _ _ _ rfl (World.ownsRow.alloc HJ3.out _) ⟨w3.heap.size, 0, none⟩ 1 1 [.int .i64 (r.length : Int)] rfl rfl ?news ?one (by omega) hq4 hqb ?base (w3.heap.size + 1) ?size ?next)
    case news => exact World.news_of_block (cs := #[.int .i64 (r.length : Int)]) (t := 3) (fr := (0, 0)) (heap_new w3 _)
    case one => first | rfl | simp [Value.oneCell'] | (intro u hu; simp at hu; subst hu; rfl)
    case base => have := HB3.out.size; simp; omega
    case size => simp
    case next =>
     intro gg gcap w4 hown4 hgrow hat hlt4
     have HJ4 := tuck (show OwnN w.heap.size (J ++ [r.length]).length (natAt (J ++ [r.length])) (.slice (some ⟨gg, 0, none⟩) (J.length + 1) gcap) w4 by
      unfold OwnN
      rw [← natAt_push, List.length_append]
      exact hown4)
     have HB4 := tuck (HJ3.out.after HB3.out HB3.out.size hgrow)
     have HU4 := tuck ((HU3.out.below (below1 w3 _)).kept hgrow (by
      by_cases h : (Value.slice va L.length vc).ownBlock = none
      ·exact Or.inl h
      ·refine Or.inr fun e => ?_
       obtain ⟨g', hg'⟩ := Option.ne_none_iff_exists'.1 h
       exact HNE.out g' (e.symm.trans hg') hg'))
     have hi4 : w4.heap[wr.heap.size]? = some (.cells #[.int .i64 (r.length : Int)] 3 (0, 0)) := (hgrow.block _ (by have := HSZ.out; simp; omega) (fun e => by have := (HJ.out.lt _ e.symm).2; omega)).trans (((below1 w3 _).block _ HSZ.out).trans HI3.out)
     have HNE4 : Hid (∀ g, (Value.slice va L.length vc).ownBlock = some g → g ≠ gg) := tuck fun g h e => by
      subst e
      rcases hat with h1 | h1
      ·exact HNE.out _ h1 h
      ·have := (HU.out.1.lt _ h).2; have := HSZ.out; omega
     have HLT4 := tuck hlt4
     clear hown4 hgrow hat hlt4 m0 m4 m5 m6 m7 ei' hi hz0 hz1 hz2' hq4 hqb
     obtain ⟨m0, m4, m5, m6, m7⟩ := HC.out _ HB4.out
     obtain ⟨zi, e2, e3⟩ := block_of_cells hi4
     have ei' : w4.cell? ⟨wr.heap.size, 0, none⟩ = some (.int .i64 (r.length : Int)) := e2 0
     have HZI := tuck zi
     clear e2 e3 hi4
     obtain ⟨i1, hi, hz0, hz1, hz2⟩ := info_parts info_sc
     have hq4 : L.length + 1 ≤ maxLen := by unfold maxLen; simp at hl2; omega
     have hqb : (L.length + 1) * 48 ≤ 140737488355328 := by simp at hl2; omega
     obtain ⟨o, ho⟩ : ∃ o, o = Obj.cells #[.int .i64 x.2.kind, .int .i64 x.2.num, .slice ta x.2.kids.length tc, .int .i64 (r.length : Int)] 100 := ⟨_, rfl⟩
     have HOWN := tuck (show (w4.alloc (.cells #[.int .i64 x.2.kind, .int .i64 x.2.num, .slice ta x.2.kids.length tc, .int .i64 (r.length : Int)] 100)).drew.ownsRow w.heap.size 100 4 (.slice va L.length vc) L.length (scL L) from (HU4.out.below (below_drew_alloc w4 _)).1)
     have HNEWS : Hid (∀ j u, ([.int .i64 x.2.kind, .int .i64 x.2.num, .slice ta x.2.kids.length tc, .int .i64 (r.length : Int)] : List Value)[j]? = some u → (w4.alloc (.cells #[.int .i64 x.2.kind, .int .i64 x.2.num, .slice ta x.2.kids.length tc, .int .i64 (r.length : Int)] 100)).drew.cell? ((⟨w4.heap.size, 0, none⟩ : Addr).add j) = some u) := tuck (World.news_of_block (cs := #[.int .i64 x.2.kind, .int .i64 x.2.num, .slice ta x.2.kids.length tc, .int .i64 (r.length : Int)]) (t := 100) (fr := (0, 0)) (heap_new w4 _))
     have HONE : Hid (∀ u ∈ ([.int .i64 x.2.kind, .int .i64 x.2.num, .slice ta x.2.kids.length tc, .int .i64 (r.length : Int)] : List Value), u.oneCell' = true) := tuck (by simp [Value.oneCell'])
     have HBS := tuck (show w.heap.size ≤ (w4.alloc (.cells #[.int .i64 x.2.kind, .int .i64 x.2.num, .slice ta x.2.kids.length tc, .int .i64 (r.length : Int)] 100)).drew.heap.size by have := HB4.out.size; simp; omega)
     have HH := tuck (show (w4.alloc (.cells #[.int .i64 x.2.kind, .int .i64 x.2.num, .slice ta x.2.kids.length tc, .int .i64 (r.length : Int)] 100)).drew.heap.size = w4.heap.size + 1 by simp)
     have HBD := tuck (below_drew_alloc w4 (.cells #[.int .i64 x.2.kind, .int .i64 x.2.num, .slice ta x.2.kids.length tc, .int .i64 (r.length : Int)] 100))
     have HFIN : Hid (∀ w5 g2 c2, w5.ownsRow w.heap.size 100 4 (.slice (some ⟨g2, 0, none⟩) (L.length + 1) c2) (L.length + 1) (scL L ++ [.int .i64 x.2.kind, .int .i64 x.2.num, .slice ta x.2.kids.length tc, .int .i64 (r.length : Int)]) → (w4.alloc (.cells #[.int .i64 x.2.kind, .int .i64 x.2.num, .slice ta x.2.kids.length tc, .int .i64 (r.length : Int)] 100)).drew.grownBy w5 (Value.slice va L.length vc).ownBlock → ((Value.slice va L.length vc).ownBlock = some g2 ∨ g2 = w4.heap.size + 1) → Below w.heap.size w w5 ∧ OwnN w.heap.size (J ++ [r.length]).length (natAt (J ++ [r.length])) (.slice (some ⟨gg, 0, none⟩) (J.length + 1) gcap) w5 ∧ UsR w w.heap.size (L ++ [((x.2, r.length), .slice ta x.2.kids.length tc)]) (.slice (some ⟨g2, 0, none⟩) (L.length + 1) c2) w5 ∧ g2 ≠ gg) := tuck fun w5 g2 c2 k1 k2 k3 =>
      ⟨bGrown k2 HBS.out (fun g h => (HU4.out.1.lt g h).1) (bAfter HB4.out HBD.out),
       (show OwnN _ _ _ _ _ from World.ownsRow.kept (HJ4.out.below HBD.out) k2 (Or.inr fun e => HNE4.out gg (by rw [← e]; rfl) rfl)),
       UsR.push HU4.out.2 k1 HS2.out hq8',
       fun e => by
       rcases k3 with h | h
       ·exact HNE4.out _ h e
       ·have := HLT4.out; omega⟩
     clear ho
     go_wp2_with fail
     go_region_law ((refine step_append_lies _ (by rfl) _ _ _ (by rfl) w.heap.size 100 i1 _ 4 48 Tryz.underlying101 hi hz0 hz1 hz2 rfl (by omega) _ _ _ (by rfl) HOWN.out ⟨w4.heap.size, 0, none⟩ 1 1 [.int .i64 x.2.kind, .int .i64 x.2.num, .slice ta x.2.kids.length tc, .int .i64 (r.length : Int)] (by rfl) (by rfl) HNEWS.out HONE.out (by omega) hq4 hqb HBS.out (w4.heap.size + 1) HH.out ?_; intro g2 c2 w5 hown5 hgrow hat hlt5; have HF5 := tuck (HFIN.out w5 g2 c2 hown5 hgrow hat); obtain ⟨m0, -, -, -, -⟩ := HC.out _ HF5.out.1))
     all_goals go_wp2_with fail
     all_goals go_roundw
     all_goals first
      | exact ⟨r, L ++ [((x.2, r.length), .slice ta x.2.kids.length tc)], J ++ [r.length], HK2.out, HR.out, HF5.out.2.1, HF5.out.2.2.1, fun g h e => HF5.out.2.2.2 (by simp [Value.ownBlock] at h e; omega), HF5.out.1, by simp at hl1 ⊢; omega, by simp at hl2 ⊢; omega⟩
      | (rw [HR.out.len]; have := HLEN.out; simp at this ⊢; omega)
end Go.Proofs.YtpddjebdncaceaaGreat
