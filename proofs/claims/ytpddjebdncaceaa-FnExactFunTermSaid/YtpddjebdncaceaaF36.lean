/-
  CurD.
-/
import Derived.Test.YtpddjebdncaceaaF35
namespace Go.Proofs.Ytpddjebdncaceaa
open Go.RowKit
set_option linter.unusedVariables false
theorem Made.mono {B B' : Nat} {t : Tm} {v : Value} {w : World} (h : Made B t v w) (hB : B' ≤ B) : Made B' t v w := by
 obtain ⟨s, F, h1, h2, h3, h4⟩ := h
 exact ⟨s, F, h1, h2, h3, fun g hg => ⟨Nat.le_trans hB (h4 g hg).1, (h4 g hg).2⟩⟩
theorem stored_none {g : Nat} {w W w' : World} (hb : Below w.heap.size w W) (hz : w.heap.size < W.heap.size) (hg : g < w.heap.size) (ht : Turn g W w') (x y z : Value) : Turn g w (((w'.setCell ⟨w.heap.size, 0, none⟩ x).setCell ⟨w.heap.size, 1, none⟩ y).setCell ⟨w.heap.size, 2, none⟩ z) :=
 ((Turn.of_below hb).trans ht).set3 (Nat.le_refl _) hg _ _ _ _ _ _
theorem stored_some {g a c : Nat} {s : ByteArray} {fo v : Value} {T : Tm} {w W w' : World} (hb : Below w.heap.size w W) (hz : w.heap.size < W.heap.size) (hg : g < w.heap.size) (ht : Turn g W w') (hm : Made W.heap.size T v w') (hc : Cur g s a c fo w') (x y z : Value) :
  Turn g w (((w'.setCell ⟨w.heap.size, 0, none⟩ x).setCell ⟨w.heap.size, 1, none⟩ y).setCell ⟨w.heap.size, 2, none⟩ z) ∧ Made w.heap.size T v (((w'.setCell ⟨w.heap.size, 0, none⟩ x).setCell ⟨w.heap.size, 1, none⟩ y).setCell ⟨w.heap.size, 2, none⟩ z) ∧ Cur g s a c fo (((w'.setCell ⟨w.heap.size, 0, none⟩ x).setCell ⟨w.heap.size, 1, none⟩ y).setCell ⟨w.heap.size, 2, none⟩ z) := by
 refine ⟨stored_none hb hz hg ht x y z, ?_, hc.far3 (by omega) _ _ _ _ _ _⟩
 obtain ⟨s, F, h1, h2, h3, h4⟩ := hm
 refine ⟨s, F, h1, h2.set3 (fun h => by have := (h4 _ h).1; omega) _ _ _ _ _ _, h3, fun y hy => ?_⟩
 rw [size_set3]
 exact ⟨by have := (h4 y hy).1; omega, (h4 y hy).2⟩
theorem rd_numbered_tm (g : Nat) (s : ByteArray) (k : Int) (a c lim : Nat) (fo : Value) (w : World) (h : Cur g s a c fo w) (ha : a ≤ s.size) (hs : s.size ≤ 1152921504606846976) (hl : lim ≤ 20) :
  Calls Try.prog 67 #[.pointer (some ⟨g, 0, none⟩), .int .i64 k, .int .i64 lim] w (TmPost g s fo w (ctNum s k lim a c)) := by
 refine (rd_numbered_any g s k a c lim fo w h ha hs hl).mono fun e w' ⟨ht, hm⟩ => ⟨ht, ?_⟩
 unfold ctNum
 cases hn : numC s lim a with
 | none => rw [hn] at hm; exact hm
 | some x => rw [hn] at hm; exact ⟨_, hm.1, ⟨_, [], rfl, SlOwn.nil _ _ _, List.nodup_nil, fun g h => by cases h⟩, hm.2⟩
theorem rdNode_m (g : Nat) (s : ByteArray) (hs : s.size ≤ 1152921504606846976) (fo p : Value) (F : FuncId) (T : TypeId) (hfm : FormOk fo p F T) (R : World → Prop) (hR : ∀ w w' : World, g < w.heap.size → Turn g w w' → R w → R w')
  (f : Nat → Nat → Option (Tm × Nat × Nat)) (D : Nat) (hD : D ≤ 1000) (hf : ∀ a c x, a ≤ s.size → c ≤ 400 → f a c = some x → x.2.1 ≤ s.size ∧ x.2.2 ≤ 400)
  (HT : ∀ (a c : Nat) (w : World), R w → Cur g s a c fo w → a ≤ s.size → c ≤ 400 → Calls Try.prog F #[p, .int .i64 ((D + 1 : Nat) : Int)] w (TmPost g s fo w (f a c)))
  (k : Int) (es : List Nat) (m : Nat) (hml : es.length = m) (hm : m ≤ 4) (hm1 : 1 ≤ m) (eb ecap : Nat) (a c : Nat) (w : World) (hw : R w) (hcu : Cur g s a c fo w) (ha : a ≤ s.size) (hc : c ≤ 400)
  (hends : ∀ i (h : i < es.length), ∃ q, w.cell? ⟨eb, i, none⟩ = some (.string q) ∧ EndIs q es[i]) (heb : eb ≠ g) :
  Calls Try.prog 69 #[.pointer (some ⟨g, 0, none⟩), .int .i64 k, .int .i64 D, .slice (some ⟨eb, 0, none⟩) m ecap] w (TmPost g s fo w (ctNode s f k es a c)) := by
 subst hml
 exact rdNode_any g s hs fo p F T hfm R hR f D hD hf HT k es hm hm1 eb ecap a c w hw hcu ha hc hends heb
set_option maxRecDepth 100000 in
set_option maxHeartbeats 4000000 in
theorem rd_plain_any (g : Nat) (s : ByteArray) (hs : s.size ≤ 1152921504606846976) (fo p : Value) (F : FuncId) (T : TypeId) (hfm : FormOk fo p F T) (R : World → Prop) (hR : ∀ w w' : World, g < w.heap.size → Turn g w w' → R w → R w')
  (f : Nat → Nat → Option (Tm × Nat × Nat)) (D : Nat) (hD : D ≤ 1000) (hf : ∀ a c x, a ≤ s.size → c ≤ 400 → f a c = some x → x.2.1 ≤ s.size ∧ x.2.2 ≤ 400)
  (HT : ∀ (a c : Nat) (w : World), R w → Cur g s a c fo w → a ≤ s.size → c ≤ 400 → Calls Try.prog F #[p, .int .i64 ((D + 1 : Nat) : Int)] w (TmPost g s fo w (f a c)))
  (b : Nat) (a c : Nat) (w : World) (hw : R w) (hcu : Cur g s a c fo w) (ha : a ≤ s.size) (hc : c ≤ 400) :
  Calls Try.prog 70 #[.pointer (some ⟨g, 0, none⟩), .int .u8 b, .int .i64 D] w (TmPost g s fo w (ctPlain s f b a c)) := by
 have hg := hcu.facts.1
 have HNO : Hid (∀ w', ctPlain s f b a c = none → Turn g w w' → TmPost g s fo w (ctPlain s f b a c) (.returned (.tuple #[.agg #[.int .i64 0, .int .i64 0, .slice none 0 0], .bool false])) w') := tuck fun w' h ht => TmPost.no h ht
 have HYES : Hid (∀ w' x v, ctPlain s f b a c = some x → Turn g w w' → Made w.heap.size x.1 v w' → Cur g s x.2.1 x.2.2 fo w' → TmPost g s fo w (ctPlain s f b a c) (.returned (.tuple #[v, .bool true])) w') := tuck fun w' x v h ht hm hc => TmPost.yes h ht hm hc
 generalize TmPost g s fo w (ctPlain s f b a c) = post at *
 have HB1 := tuck (below1 w (.cells #[.int .i64 0, .int .i64 0, .slice none 0 0] 24))
 have HV1 := tuck (VarAt.new w 0 0 (.slice none 0 0))
 have HC1 := tuck (hcu.below (below1 w (.cells #[.int .i64 0, .int .i64 0, .slice none 0 0] 24)))
 have hz1 : w.heap.size < (w.alloc (.cells #[.int .i64 0, .int .i64 0, .slice none 0 0] 24)).heap.size := by simp
 have HCU := tuck hcu
 have HW1 : Hid ((w.alloc (.cells #[.int .i64 0, .int .i64 0, .slice none 0 0] 24)).heap.size = w.heap.size + 1) := tuck (by simp)
 clear hcu
 by_cases h42 : b = 42
 ·subst h42
  have HO : Hid (ctPlain s f 42 a c = ctNum s 2 3 a c) := tuck rfl
  have HCN := tuck (rd_numbered_tm g s 2 a c 3 fo (w.alloc (.cells #[.int .i64 0, .int .i64 0, .slice none 0 0] 24)) HC1.out ha hs (by decide))
  have HVC := HV1
  have HBC := HB1
  have HZC := tuck hz1
  clear hw hfm hR hf HT
  go_enter Try.func70, Try.ntmps70
  go_wp2_with fail
  generalize w.alloc (.cells #[.int .i64 0, .int .i64 0, .slice none 0 0] 24) = WC at *
  refine HCN.out.mono ?_
  rintro e w4 ⟨ht4, hm4⟩
  have HV4 := tuck (HVC.out.only ht4.1 (by omega))
  obtain ⟨zv, v0, v1, v2, vf⟩ := HV4.out.facts
  clear HV4
  cases ho : ctNum s 2 3 a c with
  | none =>
   rw [ho] at hm4
   obtain rfl := hm4
   have HT4 := tuck (stored_none HBC.out HZC.out hg ht4)
   have HO4 := tuck (HO.out.trans ho)
   clear ht4 ho
   go_wp2_with fail
   exact bodyPost_ret (v := .tuple #[.agg #[.int .i64 0, .int .i64 0, .slice none 0 0], .bool false]) (by simp [results, Try.results70, go_sem, *]) rfl (HNO.out _ HO4.out (HT4.out _ _ _))
  | some x =>
   rw [ho] at hm4
   obtain ⟨v, rfl, hmx, hcx⟩ := hm4
   have HS4 := tuck (stored_some HBC.out HZC.out hg ht4 hmx hcx)
   obtain ⟨sx, Fx, rfl, hox, -, -⟩ := hmx
   obtain ⟨sa, sc, rfl⟩ := hox.form
   have HO4 := tuck (HO.out.trans ho)
   clear ht4 ho hcx hox
   go_wp2_with fail
   exact bodyPost_ret (v := .tuple #[.agg #[.int .i64 x.1.kind, .int .i64 x.1.num, .slice sa x.1.kids.length sc], .bool true]) (by simp [results, Try.results70, go_sem, *]) rfl (HYES.out _ x _ HO4.out (HS4.out _ _ _).1 (HS4.out _ _ _).2.1 (HS4.out _ _ _).2.2)
 by_cases h78 : b = 78
 ·subst h78
  have HO : Hid (ctPlain s f 78 a c = some (.mk 6 0 [], a, c)) := tuck rfl
  clear hw hfm hR hf HT
  go_enter Try.func70, Try.ntmps70
  go_wp2_with fail
  exact bodyPost_ret (v := .tuple #[.agg #[.int .i64 6, .int .i64 0, .slice none 0 0], .bool true]) (by simp [results, Try.results70, go_sem, *]) rfl (HYES.out _ _ _ HO.out (Turn.of_below (below1 w _)) ⟨_, [], rfl, SlOwn.nil _ _ _, List.nodup_nil, fun g h => by cases h⟩ (HCU.out.below (below1 w _)))
 by_cases h48 : b = 48
 ·subst h48
  have HO : Hid (ctPlain s f 48 a c = some (.mk 7 0 [], a, c)) := tuck rfl
  clear hw hfm hR hf HT
  go_enter Try.func70, Try.ntmps70
  go_wp2_with fail
  exact bodyPost_ret (v := .tuple #[.agg #[.int .i64 7, .int .i64 0, .slice none 0 0], .bool true]) (by simp [results, Try.results70, go_sem, *]) rfl (HYES.out _ _ _ HO.out (Turn.of_below (below1 w _)) ⟨_, [], rfl, SlOwn.nil _ _ _, List.nodup_nil, fun g h => by cases h⟩ (HCU.out.below (below1 w _)))
 by_cases h43 : b = 43
 ·subst h43
  have HO : Hid (ctPlain s f 43 a c = ctNode s f 8 [0] a c) := tuck rfl
  go_enter Try.func70, Try.ntmps70
  go_wp2_with fail
  generalize w.alloc (.cells #[.int .i64 0, .int .i64 0, .slice none 0 0] 24) = W1 at *
  have hbs := below1 W1 (.cells #[.string (ByteArray.mk #[])] 9)
  have HCN := tuck (rdNode_m g s hs fo p F T hfm R hR f D hD hf HT 8 [0] 1 rfl (by decide) (by decide) W1.heap.size 1 a c (W1.alloc (.cells #[.string (ByteArray.mk #[])] 9)) (hR _ _ hg (Turn.of_below (bAfter HB1.out hbs)) hw) (HC1.out.below hbs) (by omega) (by omega) (fun i hi => by
    have hcs : i = 0 := by simp at hi; omega
    subst hcs
    exact ⟨_, by rw [World.cell?_alloc_new]; rfl, Or.inl ⟨rfl, rfl⟩⟩) (by omega))
  rw [HW1.out] at HCN
  have HVC := tuck (HV1.out.below hbs)
  have HBC := tuck (bAfter HB1.out hbs)
  have HZC : Hid (w.heap.size < (W1.alloc (.cells #[.string (ByteArray.mk #[])] 9)).heap.size) := tuck (by simp; omega)
  clear hbs
  go_wp2_with fail
  generalize W1.alloc (.cells #[.string (ByteArray.mk #[])] 9) = WC at *
  refine HCN.out.mono ?_
  rintro e w4 ⟨ht4, hm4⟩
  have HV4 := tuck (HVC.out.only ht4.1 (by omega))
  obtain ⟨zv, v0, v1, v2, vf⟩ := HV4.out.facts
  clear HV4
  cases ho : ctNode s f 8 [0] a c with
  | none =>
   rw [ho] at hm4
   obtain rfl := hm4
   have HT4 := tuck (stored_none HBC.out HZC.out hg ht4)
   have HO4 := tuck (HO.out.trans ho)
   clear ht4 ho
   go_wp2_with fail
   exact bodyPost_ret (v := .tuple #[.agg #[.int .i64 0, .int .i64 0, .slice none 0 0], .bool false]) (by simp [results, Try.results70, go_sem, *]) rfl (HNO.out _ HO4.out (HT4.out _ _ _))
  | some x =>
   rw [ho] at hm4
   obtain ⟨v, rfl, hmx, hcx⟩ := hm4
   have HS4 := tuck (stored_some HBC.out HZC.out hg ht4 hmx hcx)
   obtain ⟨sx, Fx, rfl, hox, -, -⟩ := hmx
   obtain ⟨sa, sc, rfl⟩ := hox.form
   have HO4 := tuck (HO.out.trans ho)
   clear ht4 ho hcx hox
   go_wp2_with fail
   exact bodyPost_ret (v := .tuple #[.agg #[.int .i64 x.1.kind, .int .i64 x.1.num, .slice sa x.1.kids.length sc], .bool true]) (by simp [results, Try.results70, go_sem, *]) rfl (HYES.out _ x _ HO4.out (HS4.out _ _ _).1 (HS4.out _ _ _).2.1 (HS4.out _ _ _).2.2)
 by_cases h60 : b = 60
 ·subst h60
  have HO : Hid (ctPlain s f 60 a c = ctNode s f 9 [44, 44, 44, 62] a c) := tuck rfl
  go_enter Try.func70, Try.ntmps70
  go_wp2_with fail
  generalize w.alloc (.cells #[.int .i64 0, .int .i64 0, .slice none 0 0] 24) = W1 at *
  have hbs := below1 W1 (.cells #[.string (ByteArray.mk #[44]), .string (ByteArray.mk #[44]), .string (ByteArray.mk #[44]), .string (ByteArray.mk #[62])] 9)
  have HCN := tuck (rdNode_m g s hs fo p F T hfm R hR f D hD hf HT 9 [44, 44, 44, 62] 4 rfl (by decide) (by decide) W1.heap.size 4 a c (W1.alloc (.cells #[.string (ByteArray.mk #[44]), .string (ByteArray.mk #[44]), .string (ByteArray.mk #[44]), .string (ByteArray.mk #[62])] 9)) (hR _ _ hg (Turn.of_below (bAfter HB1.out hbs)) hw) (HC1.out.below hbs) (by omega) (by omega) (fun i hi => by
    have hcs : i = 0 ∨ i = 1 ∨ i = 2 ∨ i = 3 := by simp at hi; omega
    rcases hcs with rfl | rfl | rfl | rfl
    ·exact ⟨_, by rw [World.cell?_alloc_new]; rfl, Or.inr ⟨(by decide : 0 < 44), (by decide : 44 < 256), rfl⟩⟩
    ·exact ⟨_, by rw [World.cell?_alloc_new]; rfl, Or.inr ⟨(by decide : 0 < 44), (by decide : 44 < 256), rfl⟩⟩
    ·exact ⟨_, by rw [World.cell?_alloc_new]; rfl, Or.inr ⟨(by decide : 0 < 44), (by decide : 44 < 256), rfl⟩⟩
    ·exact ⟨_, by rw [World.cell?_alloc_new]; rfl, Or.inr ⟨(by decide : 0 < 62), (by decide : 62 < 256), rfl⟩⟩) (by omega))
  rw [HW1.out] at HCN
  have HVC := tuck (HV1.out.below hbs)
  have HBC := tuck (bAfter HB1.out hbs)
  have HZC : Hid (w.heap.size < (W1.alloc (.cells #[.string (ByteArray.mk #[44]), .string (ByteArray.mk #[44]), .string (ByteArray.mk #[44]), .string (ByteArray.mk #[62])] 9)).heap.size) := tuck (by simp; omega)
  clear hbs
  go_wp2_with fail
  generalize W1.alloc (.cells #[.string (ByteArray.mk #[44]), .string (ByteArray.mk #[44]), .string (ByteArray.mk #[44]), .string (ByteArray.mk #[62])] 9) = WC at *
  refine HCN.out.mono ?_
  rintro e w4 ⟨ht4, hm4⟩
  have HV4 := tuck (HVC.out.only ht4.1 (by omega))
  obtain ⟨zv, v0, v1, v2, vf⟩ := HV4.out.facts
  clear HV4
  cases ho : ctNode s f 9 [44, 44, 44, 62] a c with
  | none =>
   rw [ho] at hm4
   obtain rfl := hm4
   have HT4 := tuck (stored_none HBC.out HZC.out hg ht4)
   have HO4 := tuck (HO.out.trans ho)
   clear ht4 ho
   go_wp2_with fail
   exact bodyPost_ret (v := .tuple #[.agg #[.int .i64 0, .int .i64 0, .slice none 0 0], .bool false]) (by simp [results, Try.results70, go_sem, *]) rfl (HNO.out _ HO4.out (HT4.out _ _ _))
  | some x =>
   rw [ho] at hm4
   obtain ⟨v, rfl, hmx, hcx⟩ := hm4
   have HS4 := tuck (stored_some HBC.out HZC.out hg ht4 hmx hcx)
   obtain ⟨sx, Fx, rfl, hox, -, -⟩ := hmx
   obtain ⟨sa, sc, rfl⟩ := hox.form
   have HO4 := tuck (HO.out.trans ho)
   clear ht4 ho hcx hox
   go_wp2_with fail
   exact bodyPost_ret (v := .tuple #[.agg #[.int .i64 x.1.kind, .int .i64 x.1.num, .slice sa x.1.kids.length sc], .bool true]) (by simp [results, Try.results70, go_sem, *]) rfl (HYES.out _ x _ HO4.out (HS4.out _ _ _).1 (HS4.out _ _ _).2.1 (HS4.out _ _ _).2.2)
 by_cases h123 : b = 123
 ·subst h123
  have HO : Hid (ctPlain s f 123 a c = ctNode s f 10 [44, 44, 125] a c) := tuck rfl
  go_enter Try.func70, Try.ntmps70
  go_wp2_with fail
  generalize w.alloc (.cells #[.int .i64 0, .int .i64 0, .slice none 0 0] 24) = W1 at *
  have hbs := below1 W1 (.cells #[.string (ByteArray.mk #[44]), .string (ByteArray.mk #[44]), .string (ByteArray.mk #[125])] 9)
  have HCN := tuck (rdNode_m g s hs fo p F T hfm R hR f D hD hf HT 10 [44, 44, 125] 3 rfl (by decide) (by decide) W1.heap.size 3 a c (W1.alloc (.cells #[.string (ByteArray.mk #[44]), .string (ByteArray.mk #[44]), .string (ByteArray.mk #[125])] 9)) (hR _ _ hg (Turn.of_below (bAfter HB1.out hbs)) hw) (HC1.out.below hbs) (by omega) (by omega) (fun i hi => by
    have hcs : i = 0 ∨ i = 1 ∨ i = 2 := by simp at hi; omega
    rcases hcs with rfl | rfl | rfl
    ·exact ⟨_, by rw [World.cell?_alloc_new]; rfl, Or.inr ⟨(by decide : 0 < 44), (by decide : 44 < 256), rfl⟩⟩
    ·exact ⟨_, by rw [World.cell?_alloc_new]; rfl, Or.inr ⟨(by decide : 0 < 44), (by decide : 44 < 256), rfl⟩⟩
    ·exact ⟨_, by rw [World.cell?_alloc_new]; rfl, Or.inr ⟨(by decide : 0 < 125), (by decide : 125 < 256), rfl⟩⟩) (by omega))
  rw [HW1.out] at HCN
  have HVC := tuck (HV1.out.below hbs)
  have HBC := tuck (bAfter HB1.out hbs)
  have HZC : Hid (w.heap.size < (W1.alloc (.cells #[.string (ByteArray.mk #[44]), .string (ByteArray.mk #[44]), .string (ByteArray.mk #[125])] 9)).heap.size) := tuck (by simp; omega)
  clear hbs
  go_wp2_with fail
  generalize W1.alloc (.cells #[.string (ByteArray.mk #[44]), .string (ByteArray.mk #[44]), .string (ByteArray.mk #[125])] 9) = WC at *
  refine HCN.out.mono ?_
  rintro e w4 ⟨ht4, hm4⟩
  have HV4 := tuck (HVC.out.only ht4.1 (by omega))
  obtain ⟨zv, v0, v1, v2, vf⟩ := HV4.out.facts
  clear HV4
  cases ho : ctNode s f 10 [44, 44, 125] a c with
  | none =>
   rw [ho] at hm4
   obtain rfl := hm4
   have HT4 := tuck (stored_none HBC.out HZC.out hg ht4)
   have HO4 := tuck (HO.out.trans ho)
   clear ht4 ho
   go_wp2_with fail
   exact bodyPost_ret (v := .tuple #[.agg #[.int .i64 0, .int .i64 0, .slice none 0 0], .bool false]) (by simp [results, Try.results70, go_sem, *]) rfl (HNO.out _ HO4.out (HT4.out _ _ _))
  | some x =>
   rw [ho] at hm4
   obtain ⟨v, rfl, hmx, hcx⟩ := hm4
   have HS4 := tuck (stored_some HBC.out HZC.out hg ht4 hmx hcx)
   obtain ⟨sx, Fx, rfl, hox, -, -⟩ := hmx
   obtain ⟨sa, sc, rfl⟩ := hox.form
   have HO4 := tuck (HO.out.trans ho)
   clear ht4 ho hcx hox
   go_wp2_with fail
   exact bodyPost_ret (v := .tuple #[.agg #[.int .i64 x.1.kind, .int .i64 x.1.num, .slice sa x.1.kids.length sc], .bool true]) (by simp [results, Try.results70, go_sem, *]) rfl (HYES.out _ x _ HO4.out (HS4.out _ _ _).1 (HS4.out _ _ _).2.1 (HS4.out _ _ _).2.2)
 by_cases h33 : b = 33
 ·subst h33
  have HO : Hid (ctPlain s f 33 a c = ctNode s f 11 [0] a c) := tuck rfl
  go_enter Try.func70, Try.ntmps70
  go_wp2_with fail
  generalize w.alloc (.cells #[.int .i64 0, .int .i64 0, .slice none 0 0] 24) = W1 at *
  have hbs := below1 W1 (.cells #[.string (ByteArray.mk #[])] 9)
  have HCN := tuck (rdNode_m g s hs fo p F T hfm R hR f D hD hf HT 11 [0] 1 rfl (by decide) (by decide) W1.heap.size 1 a c (W1.alloc (.cells #[.string (ByteArray.mk #[])] 9)) (hR _ _ hg (Turn.of_below (bAfter HB1.out hbs)) hw) (HC1.out.below hbs) (by omega) (by omega) (fun i hi => by
    have hcs : i = 0 := by simp at hi; omega
    subst hcs
    exact ⟨_, by rw [World.cell?_alloc_new]; rfl, Or.inl ⟨rfl, rfl⟩⟩) (by omega))
  rw [HW1.out] at HCN
  have HVC := tuck (HV1.out.below hbs)
  have HBC := tuck (bAfter HB1.out hbs)
  have HZC : Hid (w.heap.size < (W1.alloc (.cells #[.string (ByteArray.mk #[])] 9)).heap.size) := tuck (by simp; omega)
  clear hbs
  go_wp2_with fail
  generalize W1.alloc (.cells #[.string (ByteArray.mk #[])] 9) = WC at *
  refine HCN.out.mono ?_
  rintro e w4 ⟨ht4, hm4⟩
  have HV4 := tuck (HVC.out.only ht4.1 (by omega))
  obtain ⟨zv, v0, v1, v2, vf⟩ := HV4.out.facts
  clear HV4
  cases ho : ctNode s f 11 [0] a c with
  | none =>
   rw [ho] at hm4
   obtain rfl := hm4
   have HT4 := tuck (stored_none HBC.out HZC.out hg ht4)
   have HO4 := tuck (HO.out.trans ho)
   clear ht4 ho
   go_wp2_with fail
   exact bodyPost_ret (v := .tuple #[.agg #[.int .i64 0, .int .i64 0, .slice none 0 0], .bool false]) (by simp [results, Try.results70, go_sem, *]) rfl (HNO.out _ HO4.out (HT4.out _ _ _))
  | some x =>
   rw [ho] at hm4
   obtain ⟨v, rfl, hmx, hcx⟩ := hm4
   have HS4 := tuck (stored_some HBC.out HZC.out hg ht4 hmx hcx)
   obtain ⟨sx, Fx, rfl, hox, -, -⟩ := hmx
   obtain ⟨sa, sc, rfl⟩ := hox.form
   have HO4 := tuck (HO.out.trans ho)
   clear ht4 ho hcx hox
   go_wp2_with fail
   exact bodyPost_ret (v := .tuple #[.agg #[.int .i64 x.1.kind, .int .i64 x.1.num, .slice sa x.1.kids.length sc], .bool true]) (by simp [results, Try.results70, go_sem, *]) rfl (HYES.out _ x _ HO4.out (HS4.out _ _ _).1 (HS4.out _ _ _).2.1 (HS4.out _ _ _).2.2)
 by_cases h64 : b = 64
 ·subst h64
  have HTK := tuck (rd_take_any g s (ByteArray.mk #[60]) a c 60 fo (w.alloc (.cells #[.int .i64 0, .int .i64 0, .slice none 0 0] 24)) HC1.out ha hs (Or.inr ⟨by decide, by decide, rfl⟩))
  have hen : endAt s a 60 = (byteAt s a == 60) := rfl
  rw [hen] at HTK
  clear hen
  by_cases h60 : byteAt s a = 60
  ·have hlt := byte_lt h60 (by decide)
   rw [show (byteAt s a == 60) = true by rw [h60]; rfl, show (if true = true ∧ 60 ≠ 0 then a + 1 else a) = a + 1 from rfl] at HTK
   have HO : Hid (ctPlain s f 64 a c = ctNode s f 12 [44, 44, 62] (a + 1) c) := tuck (by unfold ctPlain; simp [h60])
   clear h60
   go_enter Try.func70, Try.ntmps70
   go_wp2_with fail
   generalize w.alloc (.cells #[.int .i64 0, .int .i64 0, .slice none 0 0] 24) = W0 at *
   refine HTK.out.mono ?_
   rintro e W1 ⟨rfl, ht, hc1⟩
   replace HC1 := tuck hc1
   replace HV1 := tuck (HV1.out.only ht.1 (by omega))
   have HTA := tuck ht
   have hz1' := ht.size
   clear hc1 ht HTK
   have hbs := below1 W1 (.cells #[.string (ByteArray.mk #[44]), .string (ByteArray.mk #[44]), .string (ByteArray.mk #[62])] 9)
   have hgW : g < W0.heap.size := by have := HB1.out.size; omega
   have HCN := tuck (rdNode_m g s hs fo p F T hfm R hR f D hD hf HT 12 [44, 44, 62] 3 rfl (by decide) (by decide) W1.heap.size 3 (a + 1) c (W1.alloc (.cells #[.string (ByteArray.mk #[44]), .string (ByteArray.mk #[44]), .string (ByteArray.mk #[62])] 9)) (hR _ _ hg (((Turn.of_below HB1.out).trans HTA.out).below hbs) hw) (HC1.out.below hbs) (by omega) (by omega) (fun i hi => by
     have hcs : i = 0 ∨ i = 1 ∨ i = 2 := by simp at hi; omega
     rcases hcs with rfl | rfl | rfl
     ·exact ⟨_, by rw [World.cell?_alloc_new]; rfl, Or.inr ⟨(by decide : 0 < 44), (by decide : 44 < 256), rfl⟩⟩
     ·exact ⟨_, by rw [World.cell?_alloc_new]; rfl, Or.inr ⟨(by decide : 0 < 44), (by decide : 44 < 256), rfl⟩⟩
     ·exact ⟨_, by rw [World.cell?_alloc_new]; rfl, Or.inr ⟨(by decide : 0 < 62), (by decide : 62 < 256), rfl⟩⟩) (by omega))
   have HVC := tuck (HV1.out.below hbs)
   have HTC := tuck (HTA.out.below hbs)
   clear hbs
   go_wp2_with fail
   generalize W1.alloc (.cells #[.string (ByteArray.mk #[44]), .string (ByteArray.mk #[44]), .string (ByteArray.mk #[62])] 9) = WC at *
   refine HCN.out.mono ?_
   rintro e w4 ⟨ht5, hm5⟩
   have ht4 := HTC.out.trans ht5
   have hm4 : match ctNode s f 12 [44, 44, 62] (a + 1) c with
     | some x => ∃ v, e = .returned (.tuple #[v, .bool true]) ∧ Made W0.heap.size x.1 v w4 ∧ Cur g s x.2.1 x.2.2 fo w4
     | none => e = .returned (.tuple #[.agg #[.int .i64 0, .int .i64 0, .slice none 0 0], .bool false]) := by
    have hzz := HTC.out.size
    cases h : ctNode s f 12 [44, 44, 62] (a + 1) c with
    | none => rw [h] at hm5; exact hm5
    | some x => rw [h] at hm5; obtain ⟨v, h1, h2, h3⟩ := hm5; exact ⟨v, h1, h2.mono hzz, h3⟩
   have HBC := HB1
   have HZC := tuck hz1
   replace HVC := tuck (HVC.out.only ht5.1 (by omega))
   clear ht5 hm5
   have HV4 := HVC
   obtain ⟨zv, v0, v1, v2, vf⟩ := HV4.out.facts
   clear HV4
   cases ho : ctNode s f 12 [44, 44, 62] (a + 1) c with
   | none =>
    rw [ho] at hm4
    obtain rfl := hm4
    have HT4 := tuck (stored_none HBC.out HZC.out hg ht4)
    have HO4 := tuck (HO.out.trans ho)
    clear ht4 ho
    go_wp2_with fail
    exact bodyPost_ret (v := .tuple #[.agg #[.int .i64 0, .int .i64 0, .slice none 0 0], .bool false]) (by simp [results, Try.results70, go_sem, *]) rfl (HNO.out _ HO4.out (HT4.out _ _ _))
   | some x =>
    rw [ho] at hm4
    obtain ⟨v, rfl, hmx, hcx⟩ := hm4
    have HS4 := tuck (stored_some HBC.out HZC.out hg ht4 hmx hcx)
    obtain ⟨sx, Fx, rfl, hox, -, -⟩ := hmx
    obtain ⟨sa, sc, rfl⟩ := hox.form
    have HO4 := tuck (HO.out.trans ho)
    clear ht4 ho hcx hox
    go_wp2_with fail
    exact bodyPost_ret (v := .tuple #[.agg #[.int .i64 x.1.kind, .int .i64 x.1.num, .slice sa x.1.kids.length sc], .bool true]) (by simp [results, Try.results70, go_sem, *]) rfl (HYES.out _ x _ HO4.out (HS4.out _ _ _).1 (HS4.out _ _ _).2.1 (HS4.out _ _ _).2.2)
  ·rw [show (byteAt s a == 60) = false by simpa using h60] at HTK
   have HO : Hid (ctPlain s f 64 a c = none) := tuck (by unfold ctPlain; simp [h60])
   clear h60
   go_enter Try.func70, Try.ntmps70
   go_wp2_with fail
   generalize w.alloc (.cells #[.int .i64 0, .int .i64 0, .slice none 0 0] 24) = W0 at *
   refine HTK.out.mono ?_
   rintro e W1 ⟨rfl, ht, -⟩
   obtain ⟨zv, v0, v1, v2, vf⟩ := (HV1.out.only ht.1 (by omega)).facts
   have HT4 := tuck (stored_none HB1.out hz1 hg ht)
   clear ht HTK
   go_wp2_with fail
   exact bodyPost_ret (v := .tuple #[.agg #[.int .i64 0, .int .i64 0, .slice none 0 0], .bool false]) (by simp [results, Try.results70, go_sem, *]) rfl (HNO.out _ HO.out (HT4.out _ _ _))
 by_cases h124 : b = 124
 ·subst h124
  have HO : Hid (ctPlain s f 124 a c = ctNode s f 14 [44, 44, 124] a c) := tuck rfl
  go_enter Try.func70, Try.ntmps70
  go_wp2_with fail
  generalize w.alloc (.cells #[.int .i64 0, .int .i64 0, .slice none 0 0] 24) = W1 at *
  have hbs := below1 W1 (.cells #[.string (ByteArray.mk #[44]), .string (ByteArray.mk #[44]), .string (ByteArray.mk #[124])] 9)
  have HCN := tuck (rdNode_m g s hs fo p F T hfm R hR f D hD hf HT 14 [44, 44, 124] 3 rfl (by decide) (by decide) W1.heap.size 3 a c (W1.alloc (.cells #[.string (ByteArray.mk #[44]), .string (ByteArray.mk #[44]), .string (ByteArray.mk #[124])] 9)) (hR _ _ hg (Turn.of_below (bAfter HB1.out hbs)) hw) (HC1.out.below hbs) (by omega) (by omega) (fun i hi => by
    have hcs : i = 0 ∨ i = 1 ∨ i = 2 := by simp at hi; omega
    rcases hcs with rfl | rfl | rfl
    ·exact ⟨_, by rw [World.cell?_alloc_new]; rfl, Or.inr ⟨(by decide : 0 < 44), (by decide : 44 < 256), rfl⟩⟩
    ·exact ⟨_, by rw [World.cell?_alloc_new]; rfl, Or.inr ⟨(by decide : 0 < 44), (by decide : 44 < 256), rfl⟩⟩
    ·exact ⟨_, by rw [World.cell?_alloc_new]; rfl, Or.inr ⟨(by decide : 0 < 124), (by decide : 124 < 256), rfl⟩⟩) (by omega))
  rw [HW1.out] at HCN
  have HVC := tuck (HV1.out.below hbs)
  have HBC := tuck (bAfter HB1.out hbs)
  have HZC : Hid (w.heap.size < (W1.alloc (.cells #[.string (ByteArray.mk #[44]), .string (ByteArray.mk #[44]), .string (ByteArray.mk #[124])] 9)).heap.size) := tuck (by simp; omega)
  clear hbs
  go_wp2_with fail
  generalize W1.alloc (.cells #[.string (ByteArray.mk #[44]), .string (ByteArray.mk #[44]), .string (ByteArray.mk #[124])] 9) = WC at *
  refine HCN.out.mono ?_
  rintro e w4 ⟨ht4, hm4⟩
  have HV4 := tuck (HVC.out.only ht4.1 (by omega))
  obtain ⟨zv, v0, v1, v2, vf⟩ := HV4.out.facts
  clear HV4
  cases ho : ctNode s f 14 [44, 44, 124] a c with
  | none =>
   rw [ho] at hm4
   obtain rfl := hm4
   have HT4 := tuck (stored_none HBC.out HZC.out hg ht4)
   have HO4 := tuck (HO.out.trans ho)
   clear ht4 ho
   go_wp2_with fail
   exact bodyPost_ret (v := .tuple #[.agg #[.int .i64 0, .int .i64 0, .slice none 0 0], .bool false]) (by simp [results, Try.results70, go_sem, *]) rfl (HNO.out _ HO4.out (HT4.out _ _ _))
  | some x =>
   rw [ho] at hm4
   obtain ⟨v, rfl, hmx, hcx⟩ := hm4
   have HS4 := tuck (stored_some HBC.out HZC.out hg ht4 hmx hcx)
   obtain ⟨sx, Fx, rfl, hox, -, -⟩ := hmx
   obtain ⟨sa, sc, rfl⟩ := hox.form
   have HO4 := tuck (HO.out.trans ho)
   clear ht4 ho hcx hox
   go_wp2_with fail
   exact bodyPost_ret (v := .tuple #[.agg #[.int .i64 x.1.kind, .int .i64 x.1.num, .slice sa x.1.kids.length sc], .bool true]) (by simp [results, Try.results70, go_sem, *]) rfl (HYES.out _ x _ HO4.out (HS4.out _ _ _).1 (HS4.out _ _ _).2.1 (HS4.out _ _ _).2.2)
 by_cases h94 : b = 94
 ·subst h94
  have HO : Hid (ctPlain s f 94 a c = ctNode s f 15 [0] a c) := tuck rfl
  go_enter Try.func70, Try.ntmps70
  go_wp2_with fail
  generalize w.alloc (.cells #[.int .i64 0, .int .i64 0, .slice none 0 0] 24) = W1 at *
  have hbs := below1 W1 (.cells #[.string (ByteArray.mk #[])] 9)
  have HCN := tuck (rdNode_m g s hs fo p F T hfm R hR f D hD hf HT 15 [0] 1 rfl (by decide) (by decide) W1.heap.size 1 a c (W1.alloc (.cells #[.string (ByteArray.mk #[])] 9)) (hR _ _ hg (Turn.of_below (bAfter HB1.out hbs)) hw) (HC1.out.below hbs) (by omega) (by omega) (fun i hi => by
    have hcs : i = 0 := by simp at hi; omega
    subst hcs
    exact ⟨_, by rw [World.cell?_alloc_new]; rfl, Or.inl ⟨rfl, rfl⟩⟩) (by omega))
  rw [HW1.out] at HCN
  have HVC := tuck (HV1.out.below hbs)
  have HBC := tuck (bAfter HB1.out hbs)
  have HZC : Hid (w.heap.size < (W1.alloc (.cells #[.string (ByteArray.mk #[])] 9)).heap.size) := tuck (by simp; omega)
  clear hbs
  go_wp2_with fail
  generalize W1.alloc (.cells #[.string (ByteArray.mk #[])] 9) = WC at *
  refine HCN.out.mono ?_
  rintro e w4 ⟨ht4, hm4⟩
  have HV4 := tuck (HVC.out.only ht4.1 (by omega))
  obtain ⟨zv, v0, v1, v2, vf⟩ := HV4.out.facts
  clear HV4
  cases ho : ctNode s f 15 [0] a c with
  | none =>
   rw [ho] at hm4
   obtain rfl := hm4
   have HT4 := tuck (stored_none HBC.out HZC.out hg ht4)
   have HO4 := tuck (HO.out.trans ho)
   clear ht4 ho
   go_wp2_with fail
   exact bodyPost_ret (v := .tuple #[.agg #[.int .i64 0, .int .i64 0, .slice none 0 0], .bool false]) (by simp [results, Try.results70, go_sem, *]) rfl (HNO.out _ HO4.out (HT4.out _ _ _))
  | some x =>
   rw [ho] at hm4
   obtain ⟨v, rfl, hmx, hcx⟩ := hm4
   have HS4 := tuck (stored_some HBC.out HZC.out hg ht4 hmx hcx)
   obtain ⟨sx, Fx, rfl, hox, -, -⟩ := hmx
   obtain ⟨sa, sc, rfl⟩ := hox.form
   have HO4 := tuck (HO.out.trans ho)
   clear ht4 ho hcx hox
   go_wp2_with fail
   exact bodyPost_ret (v := .tuple #[.agg #[.int .i64 x.1.kind, .int .i64 x.1.num, .slice sa x.1.kids.length sc], .bool true]) (by simp [results, Try.results70, go_sem, *]) rfl (HYES.out _ x _ HO4.out (HS4.out _ _ _).1 (HS4.out _ _ _).2.1 (HS4.out _ _ _).2.2)
 by_cases h95 : b = 95
 ·subst h95
  have HO : Hid (ctPlain s f 95 a c = ctNode s f 16 [0] a c) := tuck rfl
  go_enter Try.func70, Try.ntmps70
  go_wp2_with fail
  generalize w.alloc (.cells #[.int .i64 0, .int .i64 0, .slice none 0 0] 24) = W1 at *
  have hbs := below1 W1 (.cells #[.string (ByteArray.mk #[])] 9)
  have HCN := tuck (rdNode_m g s hs fo p F T hfm R hR f D hD hf HT 16 [0] 1 rfl (by decide) (by decide) W1.heap.size 1 a c (W1.alloc (.cells #[.string (ByteArray.mk #[])] 9)) (hR _ _ hg (Turn.of_below (bAfter HB1.out hbs)) hw) (HC1.out.below hbs) (by omega) (by omega) (fun i hi => by
    have hcs : i = 0 := by simp at hi; omega
    subst hcs
    exact ⟨_, by rw [World.cell?_alloc_new]; rfl, Or.inl ⟨rfl, rfl⟩⟩) (by omega))
  rw [HW1.out] at HCN
  have HVC := tuck (HV1.out.below hbs)
  have HBC := tuck (bAfter HB1.out hbs)
  have HZC : Hid (w.heap.size < (W1.alloc (.cells #[.string (ByteArray.mk #[])] 9)).heap.size) := tuck (by simp; omega)
  clear hbs
  go_wp2_with fail
  generalize W1.alloc (.cells #[.string (ByteArray.mk #[])] 9) = WC at *
  refine HCN.out.mono ?_
  rintro e w4 ⟨ht4, hm4⟩
  have HV4 := tuck (HVC.out.only ht4.1 (by omega))
  obtain ⟨zv, v0, v1, v2, vf⟩ := HV4.out.facts
  clear HV4
  cases ho : ctNode s f 16 [0] a c with
  | none =>
   rw [ho] at hm4
   obtain rfl := hm4
   have HT4 := tuck (stored_none HBC.out HZC.out hg ht4)
   have HO4 := tuck (HO.out.trans ho)
   clear ht4 ho
   go_wp2_with fail
   exact bodyPost_ret (v := .tuple #[.agg #[.int .i64 0, .int .i64 0, .slice none 0 0], .bool false]) (by simp [results, Try.results70, go_sem, *]) rfl (HNO.out _ HO4.out (HT4.out _ _ _))
  | some x =>
   rw [ho] at hm4
   obtain ⟨v, rfl, hmx, hcx⟩ := hm4
   have HS4 := tuck (stored_some HBC.out HZC.out hg ht4 hmx hcx)
   obtain ⟨sx, Fx, rfl, hox, -, -⟩ := hmx
   obtain ⟨sa, sc, rfl⟩ := hox.form
   have HO4 := tuck (HO.out.trans ho)
   clear ht4 ho hcx hox
   go_wp2_with fail
   exact bodyPost_ret (v := .tuple #[.agg #[.int .i64 x.1.kind, .int .i64 x.1.num, .slice sa x.1.kids.length sc], .bool true]) (by simp [results, Try.results70, go_sem, *]) rfl (HYES.out _ x _ HO4.out (HS4.out _ _ _).1 (HS4.out _ _ _).2.1 (HS4.out _ _ _).2.2)
 have e42 : ((b : Int) == 42) = false := by simp; omega
 have e78 : ((b : Int) == 78) = false := by simp; omega
 have e48 : ((b : Int) == 48) = false := by simp; omega
 have e43 : ((b : Int) == 43) = false := by simp; omega
 have e60 : ((b : Int) == 60) = false := by simp; omega
 have e123 : ((b : Int) == 123) = false := by simp; omega
 have e33 : ((b : Int) == 33) = false := by simp; omega
 have e64 : ((b : Int) == 64) = false := by simp; omega
 have e124 : ((b : Int) == 124) = false := by simp; omega
 have e94 : ((b : Int) == 94) = false := by simp; omega
 have e95 : ((b : Int) == 95) = false := by simp; omega
 have HO : Hid (ctPlain s f b a c = none) := tuck (by unfold ctPlain; simp [h42, h78, h48, h43, h60, h123, h33, h64, h124, h94, h95])
 clear hw hfm hR hf HT h42 h78 h48 h43 h60 h123 h33 h64 h124 h94 h95
 go_enter Try.func70, Try.ntmps70
 go_wp2_with fail
 exact bodyPost_ret (v := .tuple #[.agg #[.int .i64 0, .int .i64 0, .slice none 0 0], .bool false]) (by simp [results, Try.results70, go_sem, *]) rfl (HNO.out _ HO.out (Turn.of_below (below1 w _)))
end Go.Proofs.Ytpddjebdncaceaa
