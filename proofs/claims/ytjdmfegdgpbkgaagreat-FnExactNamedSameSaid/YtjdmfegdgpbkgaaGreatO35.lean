/-
  NmA.
-/
import Derived.Test.YtjdmfegdgpbkgaaGreatO30
import Derived.Test.YtjdmfegdgpbkgaaGreatO34
namespace Go.Proofs.YtjdmfegdgpbkgaaGreat
open Go.RowKit
set_option linter.unusedVariables false
theorem byteAt_le (s : ByteArray) (a : Nat) : byteAt s a ≤ 255 := by
 unfold byteAt
 split
 ·have := s[a].toNat_lt; omega
 ·omega
def RN (g : Nat) (s : ByteArray) (L : List Int) (w : World) : Prop := w.cell? ⟨g, 0, none⟩ = some (.string s) ∧ ∃ q, w.cell? ⟨g, 4, none⟩ = some (.pointer q) ∧ NL w L (.pointer q)
theorem NL.only {g : Nat} {s : ByteArray} {w w' : World} (h0 : w.cell? ⟨g, 0, none⟩ = some (.string s)) (ho : Only g w w') : ∀ {L : List Int} {p : Value}, NL w L p → NL w' L p
 | [], _, h => h
 | c :: r, _, ⟨b, q, rfl, h, hr⟩ => by
  obtain ⟨hz, hc, -⟩ := block_of_cells h
  have hne : b ≠ g := by
   rintro rfl
   have := (hc 0).symm.trans h0
   simp at this
  exact ⟨b, q, rfl, (ho.block b hz (fun e => hne (by injection e))).trans h, NL.only h0 ho hr⟩
theorem Turn.cell {g : Nat} {w w' : World} (ht : Turn g w w') {i : Nat} {v : Value} (h1 : i ≠ 1) (h2 : i ≠ 2) (hb : ∃ cs T, w.heap[g]? = some (.cells cs T (0, 0))) (h : w.cell? ⟨g, i, none⟩ = some v) : w'.cell? ⟨g, i, none⟩ = some v := by
 obtain ⟨cs, T, hc⟩ := hb
 obtain ⟨cs', k0, k1⟩ := ht.2 cs T hc
 rw [(block_of_cells k0).2.1, k1 i h1 h2, ← (block_of_cells hc).2.1, h]
theorem Cur.block {g : Nat} {s : ByteArray} {a c : Nat} {fo : Value} {w : World} (h : Cur g s a c fo w) : ∃ cs T, w.heap[g]? = some (.cells cs T (0, 0)) := by
 obtain ⟨cs, T, h, _⟩ := h; exact ⟨cs, T, h⟩
def RW (g : Nat) (s : ByteArray) (L : List Int) (w : World) : Prop := RN g s L w ∧ ∃ cs T, w.heap[g]? = some (.cells cs T (0, 0))
theorem RW.turn {g : Nat} {s : ByteArray} {L : List Int} {w w' : World} (_ : g < w.heap.size) (ht : Turn g w w') (h : RW g s L w) : RW g s L w' := by
 obtain ⟨⟨h0, q, h4, hn⟩, hb⟩ := h
 refine ⟨⟨ht.cell (by decide) (by decide) hb h0, q, ht.cell (by decide) (by decide) hb h4, hn.only h0 ht.1⟩, ?_⟩
 obtain ⟨cs, T, hc⟩ := hb
 obtain ⟨cs', k0, _⟩ := ht.2 cs T hc
 exact ⟨cs', T, k0⟩
theorem Turn.scope {g : Nat} {w w' : World} {u v : Value} (h4 : w.cell? ⟨g, 4, none⟩ = some v) (ht : Turn g (w.setCell ⟨g, 4, none⟩ u) w') : Turn g w (w'.setCell ⟨g, 4, none⟩ v) := by
 refine ⟨(((Only.refl g w).setCell (p := ⟨g, 4, none⟩) (Or.inl rfl) u).trans ht.1).setCell (Or.inl rfl) v, fun cs T hc => ?_⟩
 obtain ⟨cs', k0, k1⟩ := ht.2 _ T (block_set hc 4 u)
 refine ⟨_, block_set k0 4 v, fun i h1 h2 => ?_⟩
 have hv : cs[4]? = some v := by rw [← (block_of_cells hc).2.1]; exact h4
 by_cases e : i = 4
 ·subst e
  have h44 : 4 < cs.size := (Array.getElem?_eq_some_iff.1 hv).1
  have h5 : cs'[4]? = some u := by rw [k1 4 (by decide) (by decide), Array.getElem?_setIfInBounds_self_of_lt h44]
  rw [Array.getElem?_setIfInBounds_self_of_lt (Array.getElem?_eq_some_iff.1 h5).1, hv]
 ·rw [Array.getElem?_setIfInBounds_ne (by omega), k1 i h1 h2, Array.getElem?_setIfInBounds_ne (by omega)]
def BnPost (g : Nat) (s : ByteArray) (a c : Nat) (fo : Value) (w : World) (b : Bool) (e : Ending) (w' : World) : Prop := Turn g w w' ∧ e = .returned (.tuple #[.int .u8 ((if b = true then byteAt s a else 0 : Nat) : Int), .bool b]) ∧ Cur g s (if b = true then a + 2 else a) c fo w'
set_option maxRecDepth 100000 in
set_option maxHeartbeats 1600000 in
theorem rd_binderName (g : Nat) (s : ByteArray) (hs : s.size ≤ 1152921504606846976) (a c : Nat) (fo : Value) (w : World) (hcu : Cur g s a c fo w) (ha : a ≤ s.size) :
  Calls Tryz.prog 146 #[.pointer (some ⟨g, 0, none⟩)] w (BnPost g s a c fo w (colon s a)) := by
 obtain ⟨hg, c0, c1, c2, c3, cf⟩ := hcu.facts
 have HN := tuck (rd_next_any g s a c fo w hcu ha hs)
 have hb0 : (0 : Int) ≤ (byteAt s a : Int) := by omega
 have hb1 : (byteAt s a : Int) ≤ 255 := by have := byteAt_le s a; omega
 have HIS := tuck (fun w => isName_any (byteAt s a : Int) w hb0 hb1)
 have HNO : Hid (∀ w' x, colon s a = false → Turn g w w' → Cur g s x c fo w' → BnPost g s a c fo w (colon s a) (.returned (.tuple #[.int .u8 0, .bool false])) (w'.setCell ⟨g, 1, none⟩ (.int .i64 a))) := tuck fun w' x h ht hc => by
  rw [h]; exact ⟨ht.trans (Turn.set 1 (Or.inl rfl) _), rfl, hc.set1 a⟩
 have HYES : Hid (∀ w', colon s a = true → Turn g w w' → Cur g s (a + 2) c fo w' → BnPost g s a c fo w (colon s a) (.returned (.tuple #[.int .u8 (byteAt s a), .bool true])) w') := tuck fun w' h ht hc => by
  rw [h]; exact ⟨ht, rfl, hc⟩
 generalize BnPost g s a c fo w (colon s a) = post at *
 clear c0 c2 c3
 go_enter Tryz.func146, Tryz.ntmps146
 go_wp2_with fail
 refine HN.out.mono ?_
 rintro e w1 ⟨rfl, ht1, hc1⟩
 have HT1 := tuck ht1
 have HC1 := tuck hc1
 clear ht1 hc1 HN c1 cf hg
 cases hl : ltr (byteAt s a : Int) with
 | false =>
  rw [hl] at HIS
  have HCO := tuck (show colon s a = false by unfold colon; rw [hl]; rfl)
  obtain ⟨hg, c0, c1, c2, c3, cf⟩ := HC1.out.facts
  clear hl c0 c2 c3
  generalize byteAt s a = b at *
  go_wp2_with fail
  refine (HIS.out _).mono ?_
  rintro e w2 ⟨rfl, hw2⟩
  have hw3 := hw2.symm
  subst hw3
  go_wp2_with fail
  exact HNO.out _ _ HCO.out HT1.out HC1.out
 | true =>
  rw [hl] at HIS
  have hlt := ltr_lt hl
  have HCO := tuck (show colon s a = (byteAt s (a + 1) == 58) by unfold colon; rw [hl]; rfl)
  rw [if_pos hlt] at HC1
  have HTK := tuck (rd_take_any g s (ByteArray.mk #[58]) (a + 1) c 58 fo w1 HC1.out (by omega) hs (Or.inr ⟨by decide, by decide, rfl⟩))
  rw [show endAt s (a + 1) 58 = (byteAt s (a + 1) == 58) from rfl] at HTK
  clear hl
  by_cases h58 : byteAt s (a + 1) = 58
  ·rw [show (byteAt s (a + 1) == 58) = true by rw [h58]; rfl, show (if true = true ∧ 58 ≠ 0 then a + 1 + 1 else a + 1) = a + 2 from rfl] at HTK
   replace HCO := tuck (HCO.out.trans (show (byteAt s (a + 1) == 58) = true by rw [h58]; rfl))
   clear h58
   generalize byteAt s a = b at *
   go_wp2_with fail
   refine (HIS.out _).mono ?_
   rintro e w2 ⟨rfl, hw2⟩
   have hw3 := hw2.symm
   subst hw3
   go_wp2_with fail
   refine HTK.out.mono ?_
   rintro e w3 ⟨rfl, ht3, hc3⟩
   have HT3 := tuck (HT1.out.trans ht3)
   have HC3 := tuck hc3
   clear ht3 hc3
   go_wp2_with fail
   exact HYES.out _ HCO.out HT3.out HC3.out
  ·rw [show (byteAt s (a + 1) == 58) = false by simpa using h58] at HTK
   replace HCO := tuck (HCO.out.trans (show (byteAt s (a + 1) == 58) = false by simpa using h58))
   clear h58
   generalize byteAt s a = b at *
   go_wp2_with fail
   refine (HIS.out _).mono ?_
   rintro e w2 ⟨rfl, hw2⟩
   have hw3 := hw2.symm
   subst hw3
   go_wp2_with fail
   refine HTK.out.mono ?_
   rintro e w3 ⟨rfl, ht3, hc3⟩
   have HT3 := tuck (HT1.out.trans ht3)
   have HC3 := tuck hc3
   obtain ⟨hg, c0, c1, c2, c3, cf⟩ := hc3.facts
   clear ht3 hc3 c0 c2 c3
   go_wp2_with fail
   exact HNO.out _ _ HCO.out HT3.out HC3.out
set_option maxRecDepth 100000 in
set_option maxHeartbeats 1600000 in
theorem rd_variable (g : Nat) (s : ByteArray) (L : List Int) (hL : L.length ≤ 1000) (b a c : Nat) (fo : Value) (w : World) (hw : RW g s L w) (hcu : Cur g s a c fo w) :
  Calls Tryz.prog 142 #[.pointer (some ⟨g, 0, none⟩), .int .u8 b] w (TmPost g s fo w ((nVar L b).map fun (k : Nat) => (.mk 1 (k : Int) [], a, c))) := by
 have hg := hcu.facts.1
 have HNO : Hid (∀ w', nVar L b = none → Turn g w w' → TmPost g s fo w ((nVar L b).map fun (k : Nat) => (.mk 1 (k : Int) [], a, c)) (.returned (.tuple #[.agg #[.int .i64 0, .int .i64 0, .slice none 0 0], .bool false])) w') := tuck fun w' h ht => TmPost.no (by rw [h]; rfl) ht
 have HYES : Hid (∀ w' (k : Nat), nVar L b = some k → Turn g w w' → Cur g s a c fo w' → TmPost g s fo w ((nVar L b).map fun (k : Nat) => (.mk 1 (k : Int) [], a, c)) (.returned (.tuple #[.agg #[.int .i64 1, .int .i64 k, .slice none 0 0], .bool true])) w') := tuck fun w' k h ht hc => TmPost.yes (T := .mk 1 k []) (by rw [h]; rfl) ht ⟨_, [], rfl, SlOwn.nil _ _ _, List.nodup_nil, fun g h => by cases h⟩ hc
 generalize TmPost g s fo w ((nVar L b).map fun (k : Nat) => (.mk 1 (k : Int) [], a, c)) = post at *
 have hb := below1 w (.cells #[.int .i64 0, .int .i64 0, .slice none 0 0] 25)
 obtain ⟨⟨h0, q, h4, hn⟩, -⟩ := hw
 have d4 : (w.alloc (.cells #[.int .i64 0, .int .i64 0, .slice none 0 0] 25)).cell? ⟨g, 4, none⟩ = some (.pointer q) := (hb.cell (p := ⟨g, 4, none⟩) hg).trans h4
 have HF := tuck (find_any L (b : Int) q _ hL (hn.below hb))
 have HB := tuck hb
 have HCU := tuck hcu
 have HVL : Hid (nVar L b = match nfind L (b : Int) with | none => none | some k => if k ≤ 20 then some k else none) := tuck rfl
 clear hb hcu h0 h4 hn
 obtain ⟨zv, v0, v1, v2, vf⟩ := (VarAt.new w 0 0 (.slice none 0 0)).facts
 cases hf : nfind L (b : Int) with
 | none =>
  rw [hf] at HF HVL
  have HO := tuck HVL.out
  clear hf HVL
  simp only [fpair] at HF
  go_enter Tryz.func142, Tryz.ntmps142
  go_wp2_with fail
  refine HF.out.mono ?_
  rintro e w2 ⟨rfl, hw2⟩
  have hw3 := hw2.symm
  subst hw3
  go_wp2_with fail
  exact bodyPost_ret (v := .tuple #[.agg #[.int .i64 0, .int .i64 0, .slice none 0 0], .bool false]) (by simp [results, Tryz.results142, go_sem, *]) rfl (HNO.out _ HO.out (Turn.of_below HB.out))
 | some k =>
  rw [hf] at HF HVL
  have hk := nfind_lt hf
  clear hf
  simp only [fpair] at HF
  by_cases h20 : k ≤ 20
  ·have HO : Hid (nVar L b = some k) := tuck (by rw [HVL.out]; dsimp only; rw [if_pos h20])
   have hd : decide ((20 : Int) < (k : Int)) = false := decide_eq_false (by omega)
   clear HVL
   go_enter Tryz.func142, Tryz.ntmps142
   go_wp2_with fail
   refine HF.out.mono ?_
   rintro e w2 ⟨rfl, hw2⟩
   have hw3 := hw2.symm
   subst hw3
   go_wp2_with fail
   exact bodyPost_ret (v := .tuple #[.agg #[.int .i64 1, .int .i64 k, .slice none 0 0], .bool true]) (by simp [results, Tryz.results142, go_sem, *]) rfl (HYES.out _ k HO.out (Turn.of_below (below1 w _)) (HCU.out.below (below1 w _)))
  ·have HO : Hid (nVar L b = none) := tuck (by rw [HVL.out]; dsimp only; rw [if_neg h20])
   have hd : decide ((20 : Int) < (k : Int)) = true := decide_eq_true (by omega)
   clear HVL
   go_enter Tryz.func142, Tryz.ntmps142
   go_wp2_with fail
   refine HF.out.mono ?_
   rintro e w2 ⟨rfl, hw2⟩
   have hw3 := hw2.symm
   subst hw3
   go_wp2_with fail
   exact bodyPost_ret (v := .tuple #[.agg #[.int .i64 0, .int .i64 0, .slice none 0 0], .bool false]) (by simp [results, Tryz.results142, go_sem, *]) rfl (HNO.out _ HO.out (Turn.of_below HB.out))
end Go.Proofs.YtjdmfegdgpbkgaaGreat
