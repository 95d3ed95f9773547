/-
  CurE.
-/
import Derived.Test.YtpddjebdncaceaaF36
namespace Go.Proofs.Ytpddjebdncaceaa
open Go.RowKit
set_option linter.unusedVariables false
theorem SlOwn.turn {g : Nat} {w w' : World} {l : List Tm} {v : Value} {F : List Nat} (h : SlOwn w l v F) (ht : Turn g w w') (hF : ∀ y ∈ F, y < w.heap.size ∧ y ≠ g) : SlOwn w' l v F :=
 h.keep fun y hy => SameAt.of_block (ht.block (hF y hy).1 (hF y hy).2)
set_option maxRecDepth 100000 in
set_option maxHeartbeats 4000000 in
theorem rdRound_any (g : Nat) (s : ByteArray) (hs : s.size ≤ 1152921504606846976) (fo : Value) (f : Nat → Nat → Option (Tm × Nat × Nat)) (D : Nat) (hD : D ≤ 1000) (hf : ∀ a c x, a ≤ s.size → c ≤ 400 → f a c = some x → x.2.1 ≤ s.size ∧ x.2.2 ≤ 400)
  (HT : ∀ (a c : Nat) (w : World), Cur g s a c fo w → a ≤ s.size → c ≤ 400 → Calls Try.prog 65 #[.pointer (some ⟨g, 0, none⟩), .int .i64 ((D + 1 : Nat) : Int)] w (TmPost g s fo w (f a c)))
  (a c : Nat) (w : World) (hcu : Cur g s a c fo w) (ha : a ≤ s.size) (hc : c ≤ 400) :
  Calls Try.prog 68 #[.pointer (some ⟨g, 0, none⟩), .int .i64 D] w (TmPost g s fo w (ctRound s f a c)) := by
 have hg := hcu.facts.1
 have HNO : Hid (∀ w', ctRound s f a c = none → Turn g w w' → TmPost g s fo w (ctRound s f a c) (.returned (.tuple #[.agg #[.int .i64 0, .int .i64 0, .slice none 0 0], .bool false])) w') := tuck fun w' h ht => TmPost.no h ht
 have HYES : Hid (∀ w' x v, ctRound s f a c = some x → Turn g w w' → Made w.heap.size x.1 v w' → Cur g s x.2.1 x.2.2 fo w' → TmPost g s fo w (ctRound s f a c) (.returned (.tuple #[v, .bool true])) w') := tuck fun w' x v h ht hm hc => TmPost.yes h ht hm hc
 generalize TmPost g s fo w (ctRound s f a c) = post at *
 rw [show ((D + 1 : Nat) : Int) = (D : Int) + 1 by omega] at HT
 have HB1 := tuck (below1 w (.cells #[.int .i64 0, .int .i64 0, .slice none 0 0] 24))
 have HV1 := tuck (VarAt.new w 0 0 (.slice none 0 0))
 have HC1 := tuck (hcu.below (below1 w (.cells #[.int .i64 0, .int .i64 0, .slice none 0 0] 24)))
 have hz1 : w.heap.size < (w.alloc (.cells #[.int .i64 0, .int .i64 0, .slice none 0 0] 24)).heap.size := by simp
 have HTT := tuck HT
 have HF := tuck hf
 clear hcu HT hf
 go_enter Try.func68, Try.ntmps68
 go_wp2_with fail
 generalize w.alloc (.cells #[.int .i64 0, .int .i64 0, .slice none 0 0] 24) = W1 at *
 refine (HTT.out a c W1 HC1.out ha hc).mono ?_
 rintro e w2 ⟨ht2, hm2⟩
 have HV2 := tuck (HV1.out.only ht2.1 (by omega))
 have HT2 := tuck ((Turn.of_below HB1.out).trans ht2)
 have HZ2 : Hid (W1.heap.size ≤ w2.heap.size) := tuck ht2.size
 clear ht2 HV1 HC1
 cases hfx : f a c with
 | none =>
  rw [hfx] at hm2
  obtain rfl := hm2
  have HO : Hid (ctRound s f a c = none) := tuck (by unfold ctRound; rw [hfx])
  obtain ⟨zv, v0, v1, v2, vf⟩ := (HV2.out.below (below1 w2 (.cells #[.int .i64 0, .int .i64 0, .slice none 0 0] 24))).facts
  have HR := tuck ((HT2.out.alloc (.cells #[.int .i64 0, .int .i64 0, .slice none 0 0] 24)).set3 (Nat.le_refl _) hg)
  clear hfx HV2
  go_wp2_with fail
  exact bodyPost_ret (v := .tuple #[.agg #[.int .i64 0, .int .i64 0, .slice none 0 0], .bool false]) (by simp [results, Try.results68, go_sem, *]) rfl (HNO.out _ HO.out (HR.out _ _ _ _ _ _))
 | some x =>
  rw [hfx] at hm2
  obtain ⟨v, rfl, ⟨sx, Fx, rfl, hox, hnx, hFx⟩, hcx⟩ := hm2
  obtain ⟨sa, sc, rfl⟩ := hox.form
  obtain ⟨hx1, hx2⟩ := HF.out a c x ha hc hfx
  have HFX := tuck hfx
  have hbx := below1 w2 (.cells #[.int .i64 x.1.kind, .int .i64 x.1.num, .slice sa x.1.kids.length sc] 24)
  have HVX := tuck (VarAt.new w2 x.1.kind x.1.num (.slice sa x.1.kids.length sc))
  have HV3 := tuck (HV2.out.below hbx)
  have HT3 := tuck (HT2.out.below hbx)
  have HC3 := tuck (hcx.below hbx)
  have HOX := tuck (hox.below (fun y hy => (hFx y hy).2) hbx)
  have hzA : w2.heap.size < (w2.alloc (.cells #[.int .i64 x.1.kind, .int .i64 x.1.num, .slice sa x.1.kids.length sc] 24)).heap.size := by simp
  have HFB := tuck hFx
  have HNX := tuck hnx
  clear hox hcx hbx hFx hnx hfx HV2
  go_wp2_with fail
  generalize w2.alloc (.cells #[.int .i64 x.1.kind, .int .i64 x.1.num, .slice sa x.1.kids.length sc] 24) = WA at *
  refine (rd_next_any g s x.2.1 x.2.2 fo WA HC3.out hx1 hs).mono ?_
  rintro e w3 ⟨rfl, ht3, hc3⟩
  have HTA3 := tuck ht3
  have HC4 := tuck hc3
  have HV4 := tuck (HV3.out.only ht3.1 (by omega))
  clear ht3 hc3 HV3
  go_wp2_with fail
  refine (rd_roundKind_any _ _).mono ?_
  rintro e w4 ⟨rfl, hw4⟩
  have hw5 := hw4.symm
  subst hw5
  by_cases hr : roundKind (byteAt s x.2.1) = 0
  ·have HO : Hid (ctRound s f a c = none) := tuck (by unfold ctRound; rw [HFX.out]; dsimp only; rw [if_pos hr])
   have hrb : (roundKind (byteAt s x.2.1) != 0) = false := by simp [hr]
   obtain ⟨zv, v0, v1, v2, vf⟩ := HV4.out.facts
   have HR := tuck ((HT3.out.trans HTA3.out).set3 (Nat.le_refl _) hg)
   generalize roundKind (byteAt s x.2.1) = rk at *
   subst hr
   clear hrb
   go_wp2_with fail
   exact bodyPost_ret (v := .tuple #[.agg #[.int .i64 0, .int .i64 0, .slice none 0 0], .bool false]) (by simp [results, Try.results68, go_sem, *]) rfl (HNO.out _ HO.out (HR.out _ _ _ _ _ _))
  ·have hrb : (roundKind (byteAt s x.2.1) != 0) = true := by simp [hr]
   have hlt : x.2.1 < s.size := by
    by_cases e : x.2.1 < s.size
    ·exact e
    ·exfalso; apply hr; rw [byteAt_end (by omega)]; rfl
   rw [if_pos hlt] at HC4
   have HCT : Hid (ctRound s f a c = match f (x.2.1 + 1) x.2.2 with
    | none => none
    | some y => if byteAt s y.2.1 = 41 then some (.mk (roundKind (byteAt s x.2.1)) 0 [x.1, y.1], y.2.1 + 1, y.2.2) else none) := tuck (by
     unfold ctRound; rw [HFX.out]; dsimp only; rw [if_neg hr]
     rfl)
   clear hr
   generalize roundKind (byteAt s x.2.1) = rk at *
   rw [hrb]
   clear hrb
   go_wp2_with fail
   refine (HTT.out (x.2.1 + 1) x.2.2 w3 HC4.out (by omega) hx2).mono ?_
   rintro e w5 ⟨ht5, hm5⟩
   have HTA5 := tuck (HTA3.out.trans ht5)
   have HV5 := tuck (HV4.out.only ht5.1 (by omega))
   have HZ5 : Hid (WA.heap.size ≤ w5.heap.size) := tuck HTA5.out.size
   clear ht5 HV4 HC4
   cases hfy : f (x.2.1 + 1) x.2.2 with
   | none =>
    rw [hfy] at hm5
    obtain rfl := hm5
    have HO : Hid (ctRound s f a c = none) := tuck (by rw [HCT.out, hfy])
    obtain ⟨zv, v0, v1, v2, vf⟩ := (HV5.out.below (below1 w5 (.cells #[.int .i64 0, .int .i64 0, .slice none 0 0] 24))).facts
    have HR := tuck (((HT3.out.trans HTA5.out).alloc (.cells #[.int .i64 0, .int .i64 0, .slice none 0 0] 24)).set3 (Nat.le_refl _) hg)
    clear hfy HV5 HCT
    go_wp2_with fail
    exact bodyPost_ret (v := .tuple #[.agg #[.int .i64 0, .int .i64 0, .slice none 0 0], .bool false]) (by simp [results, Try.results68, go_sem, *]) rfl (HNO.out _ HO.out (HR.out _ _ _ _ _ _))
   | some y =>
    rw [hfy] at hm5 HCT
    obtain ⟨v, rfl, ⟨sy, Fy, rfl, hoy, hny, hFy⟩, hcy⟩ := hm5
    obtain ⟨ya, yc, rfl⟩ := hoy.form
    obtain ⟨hy1, hy2⟩ := HF.out _ _ y (by omega) hx2 hfy
    have HCY : Hid (ctRound s f a c = if byteAt s y.2.1 = 41 then some (.mk rk 0 [x.1, y.1], y.2.1 + 1, y.2.2) else none) := tuck HCT.out
    have hby := below1 w5 (.cells #[.int .i64 y.1.kind, .int .i64 y.1.num, .slice ya y.1.kids.length yc] 24)
    have HVY := tuck (VarAt.new w5 y.1.kind y.1.num (.slice ya y.1.kids.length yc))
    have HV6 := tuck (HV5.out.below hby)
    have HTA6 := tuck (HTA5.out.below hby)
    have HTK := tuck (rd_take_any g s (ByteArray.mk #[41]) y.2.1 y.2.2 41 fo _ (hcy.below hby) hy1 hs (Or.inr ⟨by decide, by decide, rfl⟩))
    have HOY := tuck (hoy.below (fun z hz => (hFy z hz).2) hby)
    have hzB : w5.heap.size < (w5.alloc (.cells #[.int .i64 y.1.kind, .int .i64 y.1.num, .slice ya y.1.kids.length yc] 24)).heap.size := by simp
    have HFYB := tuck hFy
    have HNY := tuck hny
    rw [show endAt s y.2.1 41 = (byteAt s y.2.1 == 41) from rfl] at HTK
    clear hoy hcy hby hFy hny hfy HV5 HCT
    go_wp2_with fail
    generalize w5.alloc (.cells #[.int .i64 y.1.kind, .int .i64 y.1.num, .slice ya y.1.kids.length yc] 24) = WB at *
    by_cases h41 : byteAt s y.2.1 = 41
    ·rw [show (byteAt s y.2.1 == 41) = true by rw [h41]; rfl, show (if true = true ∧ 41 ≠ 0 then y.2.1 + 1 else y.2.1) = y.2.1 + 1 from rfl] at HTK
     have HO : Hid (ctRound s f a c = some (.mk rk 0 [x.1, y.1], y.2.1 + 1, y.2.2)) := tuck (by rw [HCY.out, if_pos h41])
     clear h41 HCY
     refine HTK.out.mono ?_
     rintro e w7 ⟨rfl, ht7, hc7⟩
     have hz2 := HZ2.out
     have hsz3 := HTA3.out.size
     have hgA : g < WA.heap.size := by omega
     have hzz := HZ5.out
     have HTA7 := tuck (HTA6.out.trans ht7)
     have HTB7 := tuck ht7
     have HC7 := tuck hc7
     have HV7 := tuck (HV6.out.only ht7.1 (by omega))
     have HVX7 := tuck (HVX.out.only HTA7.out.1 (by omega))
     have HVY7 := tuck (HVY.out.only ht7.1 (by omega))
     clear ht7 hc7 HTK HV6 HVX HVY
     obtain ⟨zx, x0, x1, x2, xf⟩ := HVX7.out.facts
     obtain ⟨zy, y0, y1, y2, yf⟩ := HVY7.out.facts
     have hbn := below1 w7 (.cells #[.int .i64 x.1.kind, .int .i64 x.1.num, .slice sa x.1.kids.length sc, .int .i64 y.1.kind, .int .i64 y.1.num, .slice ya y.1.kids.length yc] 24)
     obtain ⟨zv, v0, v1, v2, vf⟩ := (HV7.out.below hbn).facts
     have hFX7 : ∀ z ∈ Fx, z < WA.heap.size ∧ z ≠ g := fun z hz => ⟨by have := (HFB.out z hz).2; omega, by have := (HFB.out z hz).1; omega⟩
     have hFY7 : ∀ z ∈ Fy, z < WB.heap.size ∧ z ≠ g := fun z hz => ⟨by have := (HFYB.out z hz).2; omega, by have := (HFYB.out z hz).1; omega⟩
     have hox7 := (HOX.out.turn HTA7.out hFX7)
     have hoy7 := (HOY.out.turn HTB7.out hFY7)
     have hsz7A := HTA7.out.size
     have hsz7B := HTB7.out.size
     have hox8 := hox7.below (fun z hz => by have := (hFX7 z hz).1; omega) hbn
     have hoy8 := hoy7.below (fun z hz => by have := (hFY7 z hz).1; omega) hbn
     have HROW : Hid (SlOwn (w7.alloc (.cells #[.int .i64 x.1.kind, .int .i64 x.1.num, .slice sa x.1.kids.length sc, .int .i64 y.1.kind, .int .i64 y.1.num, .slice ya y.1.kids.length yc] 24)) [x.1, y.1] (.slice (some ⟨w7.heap.size, 0, none⟩) 2 2) (w7.heap.size :: (Fx ++ (Fy ++ [])))) := tuck (SlOwn.of_block (r := [(x.1, .slice sa x.1.kids.length sc, Fx), (y.1, .slice ya y.1.kids.length yc, Fy)]) (cap := 2) (heap_new w7 (.cells #[.int .i64 x.1.kind, .int .i64 x.1.num, .slice sa x.1.kids.length sc, .int .i64 y.1.kind, .int .i64 y.1.num, .slice ya y.1.kids.length yc] 24)) (by simp [cellsL]) (by simp [maxLen]) (fun z hz => by
      simp only [List.mem_cons, List.not_mem_nil, or_false] at hz
      rcases hz with rfl | rfl
      ·exact hox8
      ·exact hoy8))
     have HC8 := tuck (HC7.out.below hbn)
     have HT8 := tuck ((HT3.out.trans HTA7.out).below hbn)
     have HFXE : Hid (∀ z ∈ Fx, W1.heap.size ≤ z ∧ z < w2.heap.size) := HFB
     have HFYE : Hid (∀ z ∈ Fy, w3.heap.size ≤ z ∧ z < w5.heap.size) := HFYB
     have hs8 : w7.heap.size < (w7.alloc (.cells #[.int .i64 x.1.kind, .int .i64 x.1.num, .slice sa x.1.kids.length sc, .int .i64 y.1.kind, .int .i64 y.1.num, .slice ya y.1.kids.length yc] 24)).heap.size := by simp
     clear hox7 hoy7 hox8 hoy8 hbn hFX7 hFY7
     go_wp2_with fail
     generalize w7.alloc (.cells #[.int .i64 x.1.kind, .int .i64 x.1.num, .slice sa x.1.kids.length sc, .int .i64 y.1.kind, .int .i64 y.1.num, .slice ya y.1.kids.length yc] 24) = W8 at *
     refine bodyPost_ret (v := .tuple #[.agg #[.int .i64 rk, .int .i64 0, .slice (some ⟨w7.heap.size, 0, none⟩) 2 2], .bool true]) (by simp [results, Try.results68, go_sem, *]) rfl (HYES.out _ _ _ HO.out (HT8.out.set3 (Nat.le_refl _) hg _ _ _ _ _ _) ⟨_, w7.heap.size :: (Fx ++ (Fy ++ [])), rfl, HROW.out.set3 ?_ _ _ _ _ _ _, ?_, ?_⟩ (HC8.out.far3 (by omega) _ _ _ _ _ _))
     ·intro h
      simp only [List.mem_cons, List.mem_append, List.not_mem_nil, or_false] at h
      rcases h with h | h | h
      ·omega
      ·have := (HFXE.out _ h).1; omega
      ·have := (HFYE.out _ h).1; omega
     ·rw [List.append_nil]
      refine List.nodup_cons.2 ⟨fun h => ?_, List.nodup_append.2 ⟨HNX.out, HNY.out, fun p hp q hq e => ?_⟩⟩
      ·rcases List.mem_append.1 h with h | h
       ·have := (HFXE.out _ h).2; omega
       ·have := (HFYE.out _ h).2; omega
      ·have := (HFXE.out _ hp).2
       have := (HFYE.out _ hq).1
       omega
     ·intro z hz
      rw [size_set3]
      simp only [List.mem_cons, List.mem_append, List.not_mem_nil, or_false] at hz
      rcases hz with hz | hz | hz
      ·omega
      ·have := HFXE.out _ hz; omega
      ·have := HFYE.out _ hz; omega
    ·rw [show (byteAt s y.2.1 == 41) = false by simpa using h41] at HTK
     have HO : Hid (ctRound s f a c = none) := tuck (by rw [HCY.out, if_neg h41])
     clear h41 HCY
     refine HTK.out.mono ?_
     rintro e w7 ⟨rfl, ht7, -⟩
     obtain ⟨zv, v0, v1, v2, vf⟩ := (HV6.out.only ht7.1 (by omega)).facts
     have HR := tuck ((HT3.out.trans (HTA6.out.trans ht7)).set3 (Nat.le_refl _) hg)
     clear ht7 HTK HV6
     go_wp2_with fail
     exact bodyPost_ret (v := .tuple #[.agg #[.int .i64 0, .int .i64 0, .slice none 0 0], .bool false]) (by simp [results, Try.results68, go_sem, *]) rfl (HNO.out _ HO.out (HR.out _ _ _ _ _ _))
end Go.Proofs.Ytpddjebdncaceaa
