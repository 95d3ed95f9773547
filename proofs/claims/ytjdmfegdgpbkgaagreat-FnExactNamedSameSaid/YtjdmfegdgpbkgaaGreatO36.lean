/-
  NmB.
-/
import Derived.Test.YtjdmfegdgpbkgaaGreatO30
import Derived.Test.YtjdmfegdgpbkgaaGreatO35
namespace Go.Proofs.YtjdmfegdgpbkgaaGreat
open Go.RowKit
set_option linter.unusedVariables false
theorem Cur.set4 {g : Nat} {s : ByteArray} {a c : Nat} {fo : Value} {w : World} (h : Cur g s a c fo w) (v : Value) : Cur g s a c fo (w.setCell ⟨g, 4, none⟩ v) := by
 obtain ⟨cs, T, e0, e1, e2, e3, e4⟩ := h
 refine ⟨_, T, block_set e0 4 _, ?_, ?_, ?_, ?_⟩
 ·rw [Array.getElem?_setIfInBounds_ne (by decide)]; exact e1
 ·rw [Array.getElem?_setIfInBounds_ne (by decide)]; exact e2
 ·rw [Array.getElem?_setIfInBounds_ne (by decide)]; exact e3
 ·rw [Array.getElem?_setIfInBounds_ne (by decide)]; exact e4
theorem NL.setFar {w : World} {g : Nat} {s : ByteArray} (h0 : w.cell? ⟨g, 0, none⟩ = some (.string s)) (i : Nat) (v : Value) {L : List Int} {p : Value} (h : NL w L p) : NL (w.setCell ⟨g, i, none⟩ v) L p :=
 h.only h0 ((Only.refl g w).setCell (Or.inl rfl) v)
def bodyOf (s : ByteArray) (k : Int) (A : Tm) (e : Nat) (o : Option (Tm × Nat × Nat)) : Option (Tm × Nat × Nat) := match o with
 | none => none
 | some y => if endAt s y.2.1 e = true then some (.mk k 0 [A, y.1], (if endAt s y.2.1 e = true ∧ e ≠ 0 then y.2.1 + 1 else y.2.1), y.2.2) else none
def BodyPost (g : Nat) (s : ByteArray) (fo : Value) (B : Nat) (w : World) (o : Option (Tm × Nat × Nat)) (e : Ending) (w' : World) : Prop := Turn g w w' ∧ match o with
 | some x => ∃ v, e = .returned (.tuple #[v, .bool true]) ∧ Made B x.1 v w' ∧ Cur g s x.2.1 x.2.2 fo w'
 | none => e = .returned (.tuple #[.agg #[.int .i64 0, .int .i64 0, .slice none 0 0], .bool false])
set_option maxRecDepth 100000 in
set_option maxHeartbeats 4000000 in
theorem rd_body (g : Nat) (s : ByteArray) (hs : s.size ≤ 1152921504606846976) (fo : Value) (L : List Int) (b : Nat) (f : Nat → Nat → Option (Tm × Nat × Nat)) (D : Nat) (hD : D ≤ 1000) (hf : ∀ a c x, a ≤ s.size → c ≤ 400 → f a c = some x → x.2.1 ≤ s.size ∧ x.2.2 ≤ 400)
  (HT : ∀ (a c : Nat) (w : World), RW g s ((b : Int) :: L) w → Cur g s a c fo w → a ≤ s.size → c ≤ 400 → Calls Tryz.prog 140 #[.pointer (some ⟨g, 0, none⟩), .int .i64 ((D + 1 : Nat) : Int)] w (TmPost g s fo w (f a c)))
  (k : Int) (A : Tm) (aA : Option Addr) (cA : Nat) (FA : List Nat) (B : Nat) (p : ByteArray) (en : Nat) (hp : EndIs p en) (a c : Nat) (w : World) (hgB : g < B) (hoA : SlOwn w A.kids (.slice aA A.kids.length cA) FA) (hnA : FA.Nodup) (hFA : ∀ z ∈ FA, B ≤ z ∧ z < w.heap.size) (hBw : B ≤ w.heap.size)
  (hw : RW g s L w) (hcu : Cur g s a c fo w) (ha : a ≤ s.size) (hc : c ≤ 400) :
  Calls Tryz.prog 149 #[.pointer (some ⟨g, 0, none⟩), .int .i64 k, .int .u8 b, .agg #[.int .i64 A.kind, .int .i64 A.num, .slice aA A.kids.length cA], .string p, .int .i64 D] w (BodyPost g s fo B w (bodyOf s k A en (f a c))) := by
 have hg := hcu.facts.1
 have HNO : Hid (∀ w', bodyOf s k A en (f a c) = none → Turn g w w' → BodyPost g s fo B w (bodyOf s k A en (f a c)) (.returned (.tuple #[.agg #[.int .i64 0, .int .i64 0, .slice none 0 0], .bool false])) w') := tuck fun w' h ht => by rw [h]; exact ⟨ht, rfl⟩
 have HYES : Hid (∀ w' x v, bodyOf s k A en (f a c) = some x → Turn g w w' → Made B x.1 v w' → Cur g s x.2.1 x.2.2 fo w' → BodyPost g s fo B w (bodyOf s k A en (f a c)) (.returned (.tuple #[v, .bool true])) w') := tuck fun w' x v h ht hm hc => by rw [h]; exact ⟨ht, v, rfl, hm, hc⟩
 generalize BodyPost g s fo B w (bodyOf s k A en (f a c)) = post at *
 rw [show ((D + 1 : Nat) : Int) = (D : Int) + 1 by omega] at HT
 have hb2 := below2 w (.cells #[.int .i64 A.kind, .int .i64 A.num, .slice aA A.kids.length cA] 25) (.cells #[.int .i64 0, .int .i64 0, .slice none 0 0] 25)
 have HVA := tuck ((VarAt.new w A.kind A.num (.slice aA A.kids.length cA)).below (below1 _ (.cells #[.int .i64 0, .int .i64 0, .slice none 0 0] 25)))
 have HVR := tuck (var_new1 w (.cells #[.int .i64 A.kind, .int .i64 A.num, .slice aA A.kids.length cA] 25) 0 0 (.slice none 0 0))
 have HOA := tuck (hoA.below (fun z hz => (hFA z hz).2) hb2)
 have HC2 := tuck (hcu.below hb2)
 have HW2 := tuck (RW.turn hg (Turn.of_below hb2) hw)
 have HB2 := tuck hb2
 have HZ2 : Hid ( ((w.alloc (.cells #[.int .i64 A.kind, .int .i64 A.num, .slice aA A.kids.length cA] 25)).alloc (.cells #[.int .i64 0, .int .i64 0, .slice none 0 0] 25)).heap.size = w.heap.size + 2) := tuck (by simp)
 have HFA := tuck hFA
 have HNA := tuck hnA
 have HTT := tuck HT
 have HF := tuck hf
 have HP := tuck hp
 clear hcu hw hoA hb2 hFA hnA HT hf hp
 obtain ⟨⟨h0, q, h4, hn⟩, hblk⟩ := HW2.out
 obtain ⟨hg2, -, -, -, -, cf⟩ := HC2.out.facts
 have HNL := tuck hn
 have H0 := tuck h0
 have H4 := tuck h4
 have HBLK := tuck hblk
 clear hn hblk h0
 go_enter Tryz.func149, Tryz.ntmps149
 go_wp2_with fail
 generalize (w.alloc (.cells #[.int .i64 A.kind, .int .i64 A.num, .slice aA A.kids.length cA] 25)).alloc (.cells #[.int .i64 0, .int .i64 0, .slice none 0 0] 25) = W2 at *
 refine (with_any L _ _ _).mono ?_
 rintro e w3 ⟨rfl, hw3⟩
 have HN3 : Hid (NL w3 ((b : Int) :: L) (.pointer (some ⟨W2.heap.size, 0, none⟩))) := tuck (by rw [hw3]; exact HNL.out.cons)
 have HB3 : Hid (Below W2.heap.size W2 w3) := tuck (by rw [hw3]; exact below1 _ _)
 have HZ3 : Hid (W2.heap.size < w3.heap.size) := tuck (by rw [hw3]; simp)
 have h43 : w3.cell? ⟨g, 4, none⟩ = some (.pointer q) := (HB3.out.cell (p := ⟨g, 4, none⟩) hg2).trans h4
 have h03 : w3.cell? ⟨g, 0, none⟩ = some (.string s) := (HB3.out.cell (p := ⟨g, 0, none⟩) hg2).trans H0.out
 have f3 : w3.frozen? ⟨g, 4, none⟩ = false := (HB3.out.frozen (p := ⟨g, 4, none⟩) hg2).trans (cf 4)
 clear hw3 h4 cf
 go_wp2_with fail
 have HC3 := tuck ((HC2.out.below HB3.out).set4 (.pointer (some ⟨W2.heap.size, 0, none⟩)))
 have HC44 : Hid ((w3.setCell ⟨g, 4, none⟩ (.pointer (some ⟨W2.heap.size, 0, none⟩))).cell? ⟨g, 4, none⟩ = some (.pointer (some ⟨W2.heap.size, 0, none⟩))) := tuck (by
  obtain ⟨cs, Ty, hcs⟩ := (HC2.out.below HB3.out).block
  have h44 : 4 < cs.size := by
   have := (block_of_cells hcs).2.1 4
   rw [h43] at this
   exact (Array.getElem?_eq_some_iff.1 this.symm).1
  rw [(block_of_cells (block_set hcs 4 _)).2.1, Array.getElem?_setIfInBounds_self_of_lt h44])
 have HW3 : Hid (RW g s ((b : Int) :: L) (w3.setCell ⟨g, 4, none⟩ (.pointer (some ⟨W2.heap.size, 0, none⟩)))) := tuck ⟨⟨HC3.out.facts.2.1, _, HC44.out, NL.setFar h03 4 _ HN3.out⟩, HC3.out.block⟩
 have H43 := tuck h43
 clear h43 h03 f3
 refine (HTT.out a c _ HW3.out HC3.out ha hc).mono ?_
 rintro e w4 ⟨ht4, hm4⟩
 have HT4 : Hid (Turn g w3 (w4.setCell ⟨g, 4, none⟩ (.pointer q))) := tuck (Turn.scope H43.out ht4)
 have HT4' := tuck ht4
 have hgz : g < (w3.setCell ⟨g, 4, none⟩ (.pointer (some ⟨W2.heap.size, 0, none⟩))).heap.size := HC3.out.facts.1
 have hsz3 : (w3.setCell ⟨g, 4, none⟩ (.pointer (some ⟨W2.heap.size, 0, none⟩))).heap.size = w3.heap.size := by simp [World.setCell]
 rw [hsz3] at hgz
 have HSZ4 : Hid (w3.heap.size ≤ w4.heap.size) := tuck (by have := ht4.size; rwa [hsz3] at this)
 have HVA4 := tuck (((HVA.out.below HB3.out).far (p := ⟨g, 4, none⟩) (by show w.heap.size ≠ g; omega) (.pointer (some ⟨W2.heap.size, 0, none⟩))).only ht4.1 (by omega))
 have HVR4 := tuck (((HVR.out.below HB3.out).far (p := ⟨g, 4, none⟩) (by show w.heap.size + 1 ≠ g; omega) (.pointer (some ⟨W2.heap.size, 0, none⟩))).only ht4.1 (by omega))
 have hA1 : w.heap.size < w3.heap.size := by have := HZ2.out; have := HB3.out.size; omega
 have hA2 : w.heap.size + 1 < w3.heap.size := by have := HZ2.out; have := HB3.out.size; have := HZ3.out; omega
 have HTW : Hid (Turn g w w3) := tuck ((Turn.of_below HB2.out).below HB3.out)
 have HTS := tuck (Turn.scope H43.out ht4)
 have g4 : w4.cell? ⟨g, 4, none⟩ = some (.pointer (some ⟨W2.heap.size, 0, none⟩)) := ht4.cell (by decide) (by decide) HC3.out.block HC44.out
 have f4 : w4.frozen? ⟨g, 4, none⟩ = false := by
  obtain ⟨cs, Ty, hcs⟩ := HC3.out.block
  obtain ⟨cs', k0, -⟩ := ht4.2 cs Ty hcs
  exact (block_of_cells k0).2.2 4
 have hg4 : g < w4.heap.size := by have := HSZ4.out; omega
 have hss : (w4.setCell ⟨g, 4, none⟩ (.pointer q)).heap.size = w4.heap.size := by simp [World.setCell]
 have HSS := tuck hss
 clear hss
 have HVR4s := tuck (HVR4.out.far (p := ⟨g, 4, none⟩) (by show w.heap.size + 1 ≠ g; omega) (.pointer q))
 have HVA4s := tuck (HVA4.out.far (p := ⟨g, 4, none⟩) (by show w.heap.size ≠ g; omega) (.pointer q))
 cases hfx : f a c with
 | none =>
  rw [hfx] at hm4
  obtain rfl := hm4
  have HO : Hid (bodyOf s k A en (f a c) = none) := tuck (by rw [hfx]; rfl)
  have hb5 := below1 (w4.setCell ⟨g, 4, none⟩ (.pointer q)) (.cells #[.int .i64 0, .int .i64 0, .slice none 0 0] 25)
  obtain ⟨zv, v0, v1, v2, vf⟩ := (HVR4s.out.below hb5).facts
  have HT5 := tuck (HTS.out.below hb5)
  clear ht4 hfx hb5
  go_wp2_with fail
  exact bodyPost_ret (v := .tuple #[.agg #[.int .i64 0, .int .i64 0, .slice none 0 0], .bool false]) (by simp [results, Tryz.results149, go_sem, *]) rfl (HNO.out _ HO.out ((HTW.out.trans HT5.out).set3 (Nat.le_succ _) hg _ _ _ _ _ _))
 | some y =>
  rw [hfx] at hm4
  obtain ⟨v, rfl, ⟨sy, Fy, rfl, hoy, hny, hFy⟩, hcy⟩ := hm4
  obtain ⟨ya, yc, rfl⟩ := hoy.form
  obtain ⟨hy1, hy2⟩ := HF.out _ _ y ha hc hfx
  have HCT : Hid (bodyOf s k A en (f a c) = if endAt s y.2.1 en = true then some (.mk k 0 [A, y.1], (if endAt s y.2.1 en = true ∧ en ≠ 0 then y.2.1 + 1 else y.2.1), y.2.2) else none) := tuck (by rw [hfx]; rfl)
  have hby := below1 (w4.setCell ⟨g, 4, none⟩ (.pointer q)) (.cells #[.int .i64 y.1.kind, .int .i64 y.1.num, .slice ya y.1.kids.length yc] 25)
  have HT5 := tuck (HTS.out.below hby)
  have HC5 := tuck ((hcy.set4 (.pointer q)).below hby)
  have HVY5 : Hid (VarAt w4.heap.size y.1.kind y.1.num (.slice ya y.1.kids.length yc) ((w4.setCell ⟨g, 4, none⟩ (.pointer q)).alloc (.cells #[.int .i64 y.1.kind, .int .i64 y.1.num, .slice ya y.1.kids.length yc] 25))) := tuck (by
   have := VarAt.new (w4.setCell ⟨g, 4, none⟩ (.pointer q)) y.1.kind y.1.num (.slice ya y.1.kids.length yc)
   rwa [HSS.out] at this)
  have HVA5 := tuck (HVA4s.out.below hby)
  have HVR5 := tuck (HVR4s.out.below hby)
  have HFY : Hid (∀ z ∈ Fy, w3.heap.size ≤ z ∧ z < w4.heap.size) := tuck (by rw [← hsz3]; exact hFy)
  have HOY5 := tuck ((hoy.setCell (p := ⟨g, 4, none⟩) (fun h => by have h1 : w3.heap.size ≤ g := (HFY.out _ h).1; omega) (.pointer q)).below (fun z hz => by rw [HSS.out]; exact (HFY.out z hz).2) hby)
  have HTWF : Hid (∀ z ∈ FA, z < W2.heap.size ∧ z ≠ g) := tuck fun z hz => ⟨by have := (HFA.out z hz).2; have := HZ2.out; omega, by have := (HFA.out z hz).1; omega⟩
  have hoA3 := (HOA.out.below (fun z hz => (HTWF.out z hz).1) HB3.out)
  have HOA5 := tuck (hoA3.turn HT5.out (fun z hz => ⟨by have := (HTWF.out z hz).1; have := HZ3.out; omega, (HTWF.out z hz).2⟩))
  have HNY := tuck hny
  have hz5 : w4.heap.size < ((w4.setCell ⟨g, 4, none⟩ (.pointer q)).alloc (.cells #[.int .i64 y.1.kind, .int .i64 y.1.num, .slice ya y.1.kids.length yc] 25)).heap.size := by have := HSS.out; simp [World.setCell]
  have HTK := tuck (rd_take_any g s p y.2.1 y.2.2 en fo _ HC5.out hy1 hs HP.out)
  clear ht4 hfx hby hoy hny hFy hcy hoA3 HC5
  obtain ⟨a2, hA2'⟩ : ∃ a2, a2 = (if endAt s y.2.1 en = true ∧ en ≠ 0 then y.2.1 + 1 else y.2.1) := ⟨_, rfl⟩
  rw [← hA2'] at HTK HCT
  clear hA2'
  go_wp2_with fail
  generalize (w4.setCell ⟨g, 4, none⟩ (.pointer q)).alloc (.cells #[.int .i64 y.1.kind, .int .i64 y.1.num, .slice ya y.1.kids.length yc] 25) = W5 at *
  cases hen : endAt s y.2.1 en with
  | false =>
   rw [hen] at HTK HCT
   have HO : Hid (bodyOf s k A en (f a c) = none) := tuck (by rw [HCT.out]; rfl)
   clear hen HCT
   refine HTK.out.mono ?_
   rintro e w6 ⟨rfl, ht6, -⟩
   obtain ⟨zv, v0, v1, v2, vf⟩ := (HVR5.out.only ht6.1 (by omega)).facts
   have HR := tuck ((HTW.out.trans (HT5.out.trans ht6)).set3 (Nat.le_succ _) hg)
   clear ht6 HTK
   go_wp2_with fail
   exact bodyPost_ret (v := .tuple #[.agg #[.int .i64 0, .int .i64 0, .slice none 0 0], .bool false]) (by simp [results, Tryz.results149, go_sem, *]) rfl (HNO.out _ HO.out (HR.out _ _ _ _ _ _))
  | true =>
   rw [hen] at HTK HCT
   have HO : Hid (bodyOf s k A en (f a c) = some (.mk k 0 [A, y.1], a2, y.2.2)) := tuck (by rw [HCT.out, if_pos rfl])
   clear hen HCT
   refine HTK.out.mono ?_
   rintro e w6 ⟨rfl, ht6, hc6⟩
   have hs56 := ht6.size
   have hs34 := HSZ4.out
   have HVA6 := tuck (HVA5.out.only ht6.1 (by omega))
   have HVY6 := tuck (HVY5.out.only ht6.1 (by omega))
   have HVR6 := tuck (HVR5.out.only ht6.1 (by omega))
   have hoA6 := HOA5.out.turn ht6 (fun z hz => ⟨by have := (HTWF.out z hz).1; have := HZ3.out; omega, (HTWF.out z hz).2⟩)
   have hoY6 := HOY5.out.turn ht6 (fun z hz => ⟨by have := (HFY.out z hz).2; omega, by have := (HFY.out z hz).1; omega⟩)
   have HT6 := tuck ((HTW.out.trans HT5.out).trans ht6)
   have hbn := below1 w6 (.cells #[.int .i64 A.kind, .int .i64 A.num, .slice aA A.kids.length cA, .int .i64 y.1.kind, .int .i64 y.1.num, .slice ya y.1.kids.length yc] 25)
   have hoA7 := hoA6.below (fun z hz => by have := (HTWF.out z hz).1; have := HZ3.out; omega) hbn
   have hoY7 := hoY6.below (fun z hz => by have := (HFY.out z hz).2; omega) hbn
   obtain ⟨zx, x0, x1, x2, xf⟩ := HVA6.out.facts
   obtain ⟨zy, y0, y1, y2, yf⟩ := HVY6.out.facts
   obtain ⟨zv, v0, v1, v2, vf⟩ := (HVR6.out.below hbn).facts
   have HROW : Hid (SlOwn (w6.alloc (.cells #[.int .i64 A.kind, .int .i64 A.num, .slice aA A.kids.length cA, .int .i64 y.1.kind, .int .i64 y.1.num, .slice ya y.1.kids.length yc] 25)) [A, y.1] (.slice (some ⟨w6.heap.size, 0, none⟩) 2 2) (w6.heap.size :: (FA ++ (Fy ++ [])))) := tuck (SlOwn.of_block (r := [(A, .slice aA A.kids.length cA, FA), (y.1, .slice ya y.1.kids.length yc, Fy)]) (cap := 2) (heap_new w6 (.cells #[.int .i64 A.kind, .int .i64 A.num, .slice aA A.kids.length cA, .int .i64 y.1.kind, .int .i64 y.1.num, .slice ya y.1.kids.length yc] 25)) (by simp [cellsL]) (by simp [maxLen]) (fun z hz => by
    simp only [List.mem_cons, List.not_mem_nil, or_false] at hz
    rcases hz with rfl | rfl
    ·exact hoA7
    ·exact hoY7))
   have HC7 := tuck (hc6.below hbn)
   have HT7 := tuck (HT6.out.below hbn)
   have hs7 : w6.heap.size < (w6.alloc (.cells #[.int .i64 A.kind, .int .i64 A.num, .slice aA A.kids.length cA, .int .i64 y.1.kind, .int .i64 y.1.num, .slice ya y.1.kids.length yc] 25)).heap.size := by simp
   clear hoA6 hoY6 hoA7 hoY7 hbn ht6 hc6 HTK
   go_wp2_with fail
   generalize w6.alloc (.cells #[.int .i64 A.kind, .int .i64 A.num, .slice aA A.kids.length cA, .int .i64 y.1.kind, .int .i64 y.1.num, .slice ya y.1.kids.length yc] 25) = W7 at *
   refine bodyPost_ret (v := .tuple #[.agg #[.int .i64 k, .int .i64 0, .slice (some ⟨w6.heap.size, 0, none⟩) 2 2], .bool true]) (by simp [results, Tryz.results149, go_sem, *]) rfl (HYES.out _ _ _ HO.out (HT7.out.set3 (Nat.le_succ _) hg _ _ _ _ _ _) ⟨_, w6.heap.size :: (FA ++ (Fy ++ [])), rfl, HROW.out.set3 ?_ _ _ _ _ _ _, ?_, ?_⟩ (HC7.out.far3 (by omega) _ _ _ _ _ _))
   ·intro h
    simp only [List.mem_cons, List.mem_append, List.not_mem_nil, or_false] at h
    rcases h with h | h | h
    ·omega
    ·have := (HFA.out _ h).2; omega
    ·have := (HFY.out _ h).1; omega
   ·rw [List.append_nil]
    have hz2 := HZ2.out
    have hz3 := HZ3.out
    refine List.nodup_cons.2 ⟨fun h => ?_, List.nodup_append.2 ⟨HNA.out, HNY.out, fun p hp q hq e => ?_⟩⟩
    ·rcases List.mem_append.1 h with h | h
     ·have := (HFA.out _ h).2; omega
     ·have := (HFY.out _ h).2; omega
    ·have := (HFA.out _ hp).2
     have := (HFY.out _ hq).1
     omega
   ·intro z hz
    rw [size_set3]
    have hz2 := HZ2.out
    have hz3 := HZ3.out
    simp only [List.mem_cons, List.mem_append, List.not_mem_nil, or_false] at hz
    rcases hz with hz | hz | hz
    ·omega
    ·have := HFA.out _ hz; omega
    ·have := HFY.out _ hz; omega
end Go.Proofs.YtjdmfegdgpbkgaaGreat
