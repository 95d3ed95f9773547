/-
  impl.eachFree; impl.CountVar, FreeAt, MaxFree answer as 'countOf', 'maxFreeOf' say.
-/
import Derived.Test.YteeafpnjpcgfaaaGreatTrav
import Derived.Test.YteeafpnjpcgfaaaGreatImplB
namespace Go.Proofs.YteeafpnjpcgfaaaGreat
open Go.RowKit

theorem Step.setCell {M M' : Nat → Prop} {a b : World} (h : Step M a b M') {p : Addr} (hp : M' p.block) (u : Value) : Step M a (b.setCell p u) M' :=
  h.trans ⟨rfl, rfl, rfl, by simp [World.setCell], fun i _ hn => Below.heap_setCell b p u i (fun e => hn (by rw [e]; exact hp)), fun _ _ h => h, fun i hi => by simpa [World.setCell] using h.lt i hi⟩

/-- What is asked of a use of free variables. -/
def UseFree {S : Type} (w0 : World) (M0 : Nat → Prop) (St : S → (Nat → Prop) → World → Prop) (f : FuncId) (cs : Array Value) (g : S → Int → S) : Prop :=
  ∀ (w : World) (s : S) (M : Nat → Prop) (i : Int), Step M0 w0 w M → St s M w → 0 ≤ i → i ≤ 20 → Calls Tryz.prog f (#[.int .i64 i] ++ cs) w fun e w' => e = .returned (.tuple #[]) ∧ ∃ M', Step M w w' M' ∧ St (g s i) M' w'

theorem root_num {t : Tm} (h : t.rootOk) : 0 ≤ t.num ∧ t.num ≤ 20 := by
  have h1 := h.2
  unfold mostN at h1
  split at h1
  · omega
  · split at h1 <;> omega

set_option maxRecDepth 100000 in
theorem eachFree1_ok {S : Type} {u0 w0 : World} {M0 : Nat → Prop} {St : S → (Nat → Prop) → World → Prop} {f : FuncId} {cs : Array Value} {g : S → Int → S} {gu : Nat}
    (hSt : ∀ s M w w', St s M w → Below w.heap.size w w' → St s M w')
    (hcf : ∀ (args : Array Value) (w : World), (callFunc f args).run Tryz.prog w = .ok (.enter f args) w) (hgu : gu < w0.heap.size) (hgm : ¬ M0 gu) (hgc : w0.cell? ⟨gu, 0, none⟩ = some (.func (.func f) #[] cs))
    (hU : UseFree w0 M0 St f cs g) : UseOk 200 21 u0 w0 M0 St 97 #[.pointer (some ⟨gu, 0, none⟩)] (freeStep g) := by
  intro w s M x v b d hstep hst hroot _ hin hb hb1 hd hd1
  obtain ⟨a, cap, rfl⟩ := hin.form
  obtain ⟨hn0, hn1⟩ := root_num hroot
  have HF := tuck (freeOf_any b d x.kind x.num (.slice a x.kids.length cap) ((w.alloc (.cells #[.int .i64 x.kind, .int .i64 x.num, .slice a x.kids.length cap] 29)).alloc (.cells #[.int .i64 b, .int .i64 d] 123)) hb (by omega) hn0 (by omega))
  have hcu := (hstep.cell (p := ⟨gu, 0, none⟩) hgu hgm).trans hgc
  have hgw : gu < w.heap.size := Nat.lt_of_lt_of_le hgu hstep.size
  have HSTEP := tuck hstep
  have HST := tuck hst
  have HSt := tuck hSt
  have HU := tuck hU
  clear hstep hst hSt hU hin hroot
  show Calls Tryz.prog _ #[.agg #[.int .i64 x.kind, .int .i64 x.num, .slice a x.kids.length cap], .agg #[.int .i64 b, .int .i64 d], .pointer (some ⟨gu, 0, none⟩)] w _
  by_cases hk : x.kind = 1 ∧ b ≤ x.num
  · have HE : Hid (freeRes x.kind x.num b = .tuple #[.int .i64 (x.num - b), .bool true]) := if_pos hk
    have HG : Hid (freeStep g s x b d = some (g s (x.num - b))) := by show _ = _; unfold freeStep; rw [if_pos hk]
    rw [HE.out] at HF
    have hi0 : 0 ≤ x.num - b := by omega
    have hi1 : x.num - b ≤ 20 := by omega
    clear hk HE
    have HP : Hid (∀ M' w', Step M w w' M' → St (g s (x.num - b)) M' w' → UsePost St M w (freeStep g s x b d) (.returned (.bool true)) w') := fun M' w' h1 h2 => ⟨M', h1, by rw [HG.out]; rfl, fun s' h => by rw [HG.out] at h; cases h; exact h2⟩
    generalize UsePost St M w (freeStep g s x b d) = post at *
    generalize x.num - b = i at *
    go_enter Tryz.func97, Tryz.ntmps97
    go_wp2_with fail
    refine HF.out.mono ?_
    rintro e w1 ⟨rfl, hb1⟩
    have hb2 := bAfter (below2 _ _ _) hb1
    have hcu1 := (hb2.cell (p := ⟨gu, 0, none⟩) hgw).trans hcu
    have HB2 := tuck hb2
    clear hb1 hb2 hcu HF
    go_wp2_with fail
    refine (HU.out _ s M i (HSTEP.out.and HB2.out) (HSt.out _ _ _ _ HST.out HB2.out) hi0 hi1).mono ?_
    rintro e w2 ⟨rfl, M2, h1, h2⟩
    have H1 := tuck h1
    have H2 := tuck h2
    clear h1 h2
    go_wp2_with fail
    exact HP.out _ _ ((Step.of_below HB2.out HSTEP.out.lt).trans H1.out) H2.out
  · have HE : Hid (freeRes x.kind x.num b = .tuple #[.int .i64 0, .bool false]) := if_neg hk
    have HG : Hid (freeStep g s x b d = some s) := by show _ = _; unfold freeStep; rw [if_neg hk]
    rw [HE.out] at HF
    clear hk HE
    have HP : Hid (∀ M' w', Step M w w' M' → St s M' w' → UsePost St M w (freeStep g s x b d) (.returned (.bool true)) w') := fun M' w' h1 h2 => ⟨M', h1, by rw [HG.out]; rfl, fun s' h => by rw [HG.out] at h; cases h; exact h2⟩
    generalize UsePost St M w (freeStep g s x b d) = post at *
    go_enter Tryz.func97, Tryz.ntmps97
    go_wp2_with fail
    refine HF.out.mono ?_
    rintro e w1 ⟨rfl, hb1⟩
    have HB2 := tuck (bAfter (below2 _ _ _) hb1)
    clear hb1 hcu HF
    go_wp2_with fail
    exact HP.out _ _ (Step.of_below HB2.out HSTEP.out.lt) (HSt.out _ _ _ _ HST.out HB2.out)

theorem box3_below {w w' : World} {g : Nat} {k n : Int} {v : Value} (h : g < w.heap.size ∧ w.cell? ⟨g, 0, none⟩ = some (.int .i64 k) ∧ w.cell? ⟨g, 1, none⟩ = some (.int .i64 n) ∧ w.cell? ⟨g, 2, none⟩ = some v) (hb : Below w.heap.size w w') :
    g < w'.heap.size ∧ w'.cell? ⟨g, 0, none⟩ = some (.int .i64 k) ∧ w'.cell? ⟨g, 1, none⟩ = some (.int .i64 n) ∧ w'.cell? ⟨g, 2, none⟩ = some v :=
  ⟨Nat.lt_of_lt_of_le h.1 hb.size, (hb.cell (p := ⟨g, 0, none⟩) h.1).trans h.2.1, (hb.cell (p := ⟨g, 1, none⟩) h.1).trans h.2.2.1, (hb.cell (p := ⟨g, 2, none⟩) h.1).trans h.2.2.2⟩
theorem box3_step {w w' : World} {M M' : Nat → Prop} {g : Nat} {k n : Int} {v : Value} (h : g < w.heap.size ∧ w.cell? ⟨g, 0, none⟩ = some (.int .i64 k) ∧ w.cell? ⟨g, 1, none⟩ = some (.int .i64 n) ∧ w.cell? ⟨g, 2, none⟩ = some v) (hb : Step M w w' M') (hn : ¬ M g) :
    g < w'.heap.size ∧ w'.cell? ⟨g, 0, none⟩ = some (.int .i64 k) ∧ w'.cell? ⟨g, 1, none⟩ = some (.int .i64 n) ∧ w'.cell? ⟨g, 2, none⟩ = some v :=
  ⟨Nat.lt_of_lt_of_le h.1 hb.size, (hb.cell (p := ⟨g, 0, none⟩) h.1 hn).trans h.2.1, (hb.cell (p := ⟨g, 1, none⟩) h.1 hn).trans h.2.2.1, (hb.cell (p := ⟨g, 2, none⟩) h.1 hn).trans h.2.2.2⟩

set_option maxRecDepth 100000 in
theorem eachFree_any {S : Type} {u0 w : World} {M : Nat → Prop} {St : S → (Nat → Prop) → World → Prop} {f : FuncId} {cs : Array Value} {g : S → Int → S} {s s' : S} (t : Tm) (v : Value)
    (hSt : ∀ s M w w', St s M w → Below w.heap.size w w' → St s M w') (hu : Below u0.heap.size u0 w) (hM : ∀ i, M i → u0.heap.size ≤ i) (hMl : ∀ i, M i → i < w.heap.size)
    (hcf : ∀ (args : Array Value) (w : World), (callFunc f args).run Tryz.prog w = .ok (.enter f args) w) (hU : UseFree w M St f cs g) (hst : St s M w) (hok : t.allOk) (hh : t.hgt ≤ 100) (hin : TmIn u0 0 t v)
    (hr : t.trav (freeStep g) 0 1 s = some s') :
    Calls Tryz.prog 77 #[v, .func (.func f) #[] cs] w fun e w' => e = .returned (.tuple #[]) ∧ ∃ M', Step M w w' M' ∧ St s' M' w' := by
  obtain ⟨sv, rfl, hs⟩ := hin
  obtain ⟨a, cap, rfl⟩ := hs.form
  have hb2 : Below w.heap.size w ((w.alloc (.cells #[.int .i64 t.kind, .int .i64 t.num, .slice a t.kids.length cap] 29)).alloc (.cells #[.func (.func f) #[] cs] 120)) := below2 _ _ _
  have hgc : ((w.alloc (.cells #[.int .i64 t.kind, .int .i64 t.num, .slice a t.kids.length cap] 29)).alloc (.cells #[.func (.func f) #[] cs] 120)).cell? ⟨w.heap.size + 1, 0, none⟩ = some (.func (.func f) #[] cs) := by go_simp
  have hz1 : w.heap.size + 1 < ((w.alloc (.cells #[.int .i64 t.kind, .int .i64 t.num, .slice a t.kids.length cap] 29)).alloc (.cells #[.func (.func f) #[] cs] 120)).heap.size := by simp
  have hbox : w.heap.size < ((w.alloc (.cells #[.int .i64 t.kind, .int .i64 t.num, .slice a t.kids.length cap] 29)).alloc (.cells #[.func (.func f) #[] cs] 120)).heap.size ∧
      ((w.alloc (.cells #[.int .i64 t.kind, .int .i64 t.num, .slice a t.kids.length cap] 29)).alloc (.cells #[.func (.func f) #[] cs] 120)).cell? ⟨w.heap.size, 0, none⟩ = some (.int .i64 t.kind) ∧
      ((w.alloc (.cells #[.int .i64 t.kind, .int .i64 t.num, .slice a t.kids.length cap] 29)).alloc (.cells #[.func (.func f) #[] cs] 120)).cell? ⟨w.heap.size, 1, none⟩ = some (.int .i64 t.num) ∧
      ((w.alloc (.cells #[.int .i64 t.kind, .int .i64 t.num, .slice a t.kids.length cap] 29)).alloc (.cells #[.func (.func f) #[] cs] 120)).cell? ⟨w.heap.size, 2, none⟩ = some (.slice a t.kids.length cap) := by
    refine ⟨by simp; omega, by go_simp, by go_simp, by go_simp⟩
  have hnm : ¬ M w.heap.size := fun h => Nat.lt_irrefl _ (hMl _ h)
  have hnm1 : ¬ M (w.heap.size + 1) := fun h => by have := hMl _ h; omega
  have hhh : 1 + hgts t.kids ≤ 100 := by rw [← t.hgt_eq]; exact hh
  have HE : Hid (∀ w1, Below ((w.alloc (.cells #[.int .i64 t.kind, .int .i64 t.num, .slice a t.kids.length cap] 29)).alloc (.cells #[.func (.func f) #[] cs] 120)).heap.size ((w.alloc (.cells #[.int .i64 t.kind, .int .i64 t.num, .slice a t.kids.length cap] 29)).alloc (.cells #[.func (.func f) #[] cs] 120)) w1 →
      Calls Tryz.prog 79 #[.agg #[.int .i64 t.kind, .int .i64 t.num, .slice a t.kids.length cap], .agg #[.int .i64 0, .int .i64 1], .func (.func 97) #[] #[.pointer (some ⟨w.heap.size + 1, 0, none⟩)]] w1 (UsePost St M w1 (t.trav (freeStep g) 0 1 s))) := by
    intro w1 hb1
    have huse := eachFree1_ok (u0 := u0) (w0 := ((w.alloc (.cells #[.int .i64 t.kind, .int .i64 t.num, .slice a t.kids.length cap] 29)).alloc (.cells #[.func (.func f) #[] cs] 120))) (M0 := M) (St := St) (g := g) (gu := w.heap.size + 1) hSt hcf hz1 hnm1 hgc (fun w' s M' i h1 h2 h3 h4 => hU w' s M' i ((Step.of_below hb2 hMl).trans h1) h2 h3 h4)
    have h := each_any (D := 200) (L := 21) (by omega) hSt (bAfter hu hb2) hM (fun _ _ => by kernel_rfl) huse t.kids t.kind t.num 0 1 w1 s M _ (Step.of_below hb1 (fun i hi => Nat.lt_of_lt_of_le (hMl i hi) hb2.size)) (hSt _ _ _ _ (hSt _ _ _ _ hst hb2) hb1) (by rw [Tm.eta]; exact hok) (by rw [Tm.eta]; exact (t.most_bd 0 hok (Int.le_refl 0)).2) hs (by omega) (by omega) (by omega) (by omega)
    rwa [Tm.eta] at h
  have HP : Hid (∀ w1 w' M', Below w.heap.size w w1 → Step M w1 w' M' → (∀ s1, some s' = some s1 → St s1 M' w') → (∃ M', Step M w w' M' ∧ St s' M' w')) := fun w1 w' M' h0 h1 h2 => ⟨M', (Step.of_below h0 hMl).trans h1, h2 s' rfl⟩
  rw [hr] at HE
  have HNM := tuck hnm
  have HB2 := tuck hb2
  have HBOX := tuck hbox
  clear hst hok hh hs hr hU hM hMl hcf hnm hnm1 hgc hz1 hhh hSt hb2 hbox
  go_enter Tryz.func77, Tryz.ntmps77
  go_wp2_with fail
  obtain ⟨z0, b0, b1, b2⟩ := HBOX.out
  generalize ((w.alloc (.cells #[.int .i64 t.kind, .int .i64 t.num, .slice a t.kids.length cap] 29)).alloc (.cells #[.func (.func f) #[] cs] 120)) = W0 at *
  go_region_held3 (fun w' => w.heap.size < w'.heap.size ∧ w'.cell? ⟨w.heap.size, 0, none⟩ = some (.int .i64 t.kind) ∧ w'.cell? ⟨w.heap.size, 1, none⟩ = some (.int .i64 t.num) ∧ w'.cell? ⟨w.heap.size, 2, none⟩ = some (.slice a t.kids.length cap)) (first | exact HBOX.out | exact box3_step (by assumption) hs3 HNM.out | exact box3_below (by assumption) hb1) (first | (go_at_call 80; refine (rootSpot_any _).mono ?_; rintro e w1 ⟨rfl, hb1⟩) | (go_at_call 79; refine (HE.out _ (bAfter (Below.refl _ _).drew hb1)).mono ?_; rintro e w3 ⟨M3, hs3, rfl, hst3⟩))
  all_goals (try go_wp2_with fail)
  all_goals (go_end0; exact ⟨rfl, HP.out w1 w3 M3 (bAfter HB2.out (bAfter (Below.refl _ _).drew hb1)) hs3 hst3⟩)

/-- The count in its variable. -/
def IntAt (c : Nat) (s : Int) (M : Nat → Prop) (w : World) : Prop := w.heap[c]? = some (.cells #[.int .i64 s] 3 (0, 0)) ∧ M = fun i => i = c
theorem IntAt.below {c : Nat} : ∀ (s : Int) (M : Nat → Prop) (w w' : World), IntAt c s M w → Below w.heap.size w w' → IntAt c s M w' := fun _ _ _ _ h hb => ⟨(hb.block c (block_of_cells h.1).1).trans h.1, h.2⟩

/-- The same with a variable of another type. -/
def IdxAt (c : Nat) (s : Int) (M : Nat → Prop) (w : World) : Prop := w.heap[c]? = some (.cells #[.int .i64 s] 118 (0, 0)) ∧ M = fun i => i = c
theorem IdxAt.below {c : Nat} : ∀ (s : Int) (M : Nat → Prop) (w w' : World), IdxAt c s M w → Below w.heap.size w w' → IdxAt c s M w' := fun _ _ _ _ h hb => ⟨(hb.block c (block_of_cells h.1).1).trans h.1, h.2⟩

theorem most1_ok {w0 : World} {c : Nat} : UseFree w0 (fun i => i = c) (fun s M w => IdxAt c s M w ∧ 0 ≤ s ∧ s ≤ 21) 78 #[.pointer (some ⟨c, 0, none⟩)] mostUse := by
  intro w s M i hstep hst hi0 hi1
  obtain ⟨⟨hcell, rfl⟩, hs0, hs1⟩ := hst
  obtain ⟨z, e0, ef⟩ := block_of_cells hcell
  have c0 : w.cell? ⟨c, 0, none⟩ = some (.int .i64 s) := e0 0
  have f0 := ef 0
  have hset := block_set hcell 0 (.int .i64 (mostUse s i))
  have HI : Hid (∀ w', w' = w.setCell ⟨c, 0, none⟩ (.int .i64 (mostUse s i)) → ∃ M', Step (fun i => i = c) w w' M' ∧ IdxAt c (mostUse s i) M' w' ∧ 0 ≤ mostUse s i ∧ mostUse s i ≤ 21) := fun w' h => by
    subst h
    exact ⟨_, (Step.refl hstep.lt).setCell rfl _, ⟨by simpa using hset, rfl⟩, by unfold mostUse; omega, by unfold mostUse; omega⟩
  clear hcell hstep e0 ef hset
  unfold mostUse at *
  show Calls Tryz.prog _ #[.int .i64 i, .pointer (some ⟨c, 0, none⟩)] w _
  go_enter Tryz.func78, Tryz.ntmps78
  go_wp2
  all_goals (go_end0; exact ⟨rfl, HI.out _ (by first | rw [show max s (i + 1) = s by omega] | rw [show max s (i + 1) = i + 1 by omega])⟩)

set_option maxRecDepth 100000 in
theorem maxFreeI_any (t : Tm) (w : World) (v : Value) (h : TmIn w 0 t v) : Calls Tryz.prog 43 #[v] w (IntPost w (maxFreeOf t)) := by
  obtain ⟨s, rfl, hs⟩ := h
  obtain ⟨a, cap, rfl⟩ := hs.form
  have HV : Hid (∀ w', Below w.heap.size w w' → Calls Tryz.prog 15 #[.agg #[.int .i64 t.kind, .int .i64 t.num, .slice a t.kids.length cap]] w' (BoolPost w' (tr t.Valid))) := fun w' h => validI_any t w' _ ⟨_, rfl, hs.below h⟩
  by_cases hv : t.Valid
  · have HR := tuck (most_trav hv)
    rw [tr_of hv] at HV
    have HE : Hid (∀ (w1 : World) (c : Nat), Below w.heap.size w w1 → w.heap.size ≤ c → w1.heap[c]? = some (.cells #[.int .i64 0] 118 (0, 0)) →
        Calls Tryz.prog 77 #[.agg #[.int .i64 t.kind, .int .i64 t.num, .slice a t.kids.length cap], .func (.func 78) #[] #[.pointer (some ⟨c, 0, none⟩)]] w1
          fun e w' => e = .returned (.tuple #[]) ∧ ∃ M', Step (fun i => i = c) w1 w' M' ∧ (IdxAt c (maxFreeOf t) M' w' ∧ 0 ≤ maxFreeOf t ∧ maxFreeOf t ≤ 21)) := fun w1 c hb hc hcc =>
      eachFree_any t _ (fun s M w w' h hb => ⟨IdxAt.below s M w w' h.1 hb, h.2⟩) hb (fun i hi => by rw [hi]; exact hc) (fun i hi => by rw [hi]; exact (block_of_cells hcc).1) (fun _ _ => by kernel_rfl) most1_ok ⟨⟨hcc, rfl⟩, by omega, by omega⟩ hv.1 (by have := hv.2.1; omega) ⟨_, rfl, hs⟩ HR.out
    generalize maxFreeOf t = res at *
    clear hv HR hs
    go_enter Tryz.func43, Tryz.ntmps43
    go_wp2_with fail
    refine (HV.out _ (below1 _ _)).mono ?_
    rintro e w1 ⟨rfl, hb⟩
    have HB := tuck (bAfter (below1 _ _) hb)
    have hz : w.heap.size < w1.heap.size := by have := hb.size; simp at this; omega
    have b0 : w1.cell? ⟨w.heap.size, 0, none⟩ = some (.int .i64 t.kind) := (hb.cell (p := ⟨w.heap.size, 0, none⟩) (by simp)).trans (by go_simp)
    have b1 : w1.cell? ⟨w.heap.size, 1, none⟩ = some (.int .i64 t.num) := (hb.cell (p := ⟨w.heap.size, 1, none⟩) (by simp)).trans (by go_simp)
    have b2 : w1.cell? ⟨w.heap.size, 2, none⟩ = some (.slice a t.kids.length cap) := (hb.cell (p := ⟨w.heap.size, 2, none⟩) (by simp)).trans (by go_simp)
    clear hb
    go_wp2_with fail
    have hbw : Below w.heap.size w (w1.alloc (.cells #[.int .i64 0] 118)) := bAfter HB.out (below1 _ _)
    refine (HE.out _ w1.heap.size hbw (Nat.le_of_lt hz) (heap_new _ _)).mono ?_
    rintro e w2 ⟨rfl, M', hst, ⟨hc, rfl⟩, -, -⟩
    have c0 : w2.cell? ⟨w1.heap.size, 0, none⟩ = some (.int .i64 res) := (block_of_cells hc).2.1 0
    have HB2 := tuck (hst.below hbw (by simp; omega) (fun i hi => by rw [hi]; exact Nat.le_of_lt hz))
    clear hst hc hbw b0 b1 b2
    go_wp2_with fail
    go_ret
    exact ⟨rfl, HB2.out⟩
  · rw [tr_not hv] at HV
    rw [show maxFreeOf t = -1 from if_neg hv]
    clear hv hs
    go_enter Tryz.func43, Tryz.ntmps43
    go_wp2_with fail
    refine (HV.out _ (below1 _ _)).mono ?_
    rintro e w1 ⟨rfl, hb⟩
    have HB := tuck (bAfter (below1 _ _) hb)
    clear hb
    go_wp2_with fail
    go_ret
    exact ⟨rfl, HB.out⟩

end Go.Proofs.YteeafpnjpcgfaaaGreat
