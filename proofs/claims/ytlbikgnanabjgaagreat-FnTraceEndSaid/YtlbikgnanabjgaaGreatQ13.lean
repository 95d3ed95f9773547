/-
  Repl, ImplS.
-/
import Derived.Test.YtlbikgnanabjgaaGreatQ12
namespace Go.Proofs.YtlbikgnanabjgaaGreat
open Go.RowKit
def ReplPost (w : World) (P : Prop) (T : Tm) (e : Ending) (w' : World) : Prop := Below w.heap.size w w' ∧ ∃ v, e = .returned (.tuple #[v, .bool (tr P)]) ∧ Made w.heap.size (orZero P T) v w'
theorem ReplPost.no {w w' : World} {P : Prop} {T : Tm} (hP : ¬ P) (hb : Below w.heap.size w w') : ReplPost w P T (.returned (.tuple #[.agg #[.int .i64 0, .int .i64 0, .slice none 0 0], .bool false])) w' :=
 ⟨hb, _, by rw [tr_not hP], by unfold orZero; rw [if_neg hP]; exact ⟨_, [], rfl, SlOwn.nil _ _ _, List.nodup_nil, fun g h => by cases h⟩⟩
theorem ReplPost.yes {w w' : World} {P : Prop} {T : Tm} {s : Value} {F : List Nat} (hP : P) (hb : Below w.heap.size w w') (hs : SlOwn w' T.kids s F) (hn : F.Nodup) (hF : ∀ g ∈ F, w.heap.size ≤ g ∧ g < w'.heap.size) :
  ReplPost w P T (.returned (.tuple #[.agg #[.int .i64 T.kind, .int .i64 T.num, s], .bool true])) w' :=
 ⟨hb, _, by rw [tr_of hP], by unfold orZero; rw [if_pos hP]; exact ⟨s, F, rfl, hs, hn, hF⟩⟩
theorem flat_pos (t : Tm) : 1 ≤ t.flat.length := by rw [t.flat_length]; exact t.size_pos
set_option maxRecDepth 100000 in
theorem replaceFree_any {L : Int} {f : FuncId} {cs : Array Value} {ok : Int → Int → Prop} {ρ : Int → Int → Tm} {P : Prop} {T : Tm} (t : Tm) (w u0 : World) (v : Value) (hcf : ∀ (args : Array Value) (w : World), (callFunc f args).run Tryz.prog w = .ok (.enter f args) w)
  (hu : Below u0.heap.size u0 w) (hU : ∀ (w0 : World) (M0 : Nat → Prop) (g : Nat), Below w.heap.size w w0 → (∀ i, M0 i → w.heap.size ≤ i) → UseRepl 200 L w0 M0 g f cs ok ρ) (hv : t.Valid) (hmo : t.most 0 ≤ L) (hin : TmIn u0 0 t v)
  (hr : emit (t.okAll ok 0) (t.repl ρ 0) 1 [] = @ite _ P (Classical.propDecidable P) (some T.flat) none) :
  Calls Tryz.prog 88 #[v, .func (.func f) #[] cs] w (ReplPost w P T) := by
 obtain ⟨sv, rfl, hs⟩ := hin
 obtain ⟨a, cap, rfl⟩ := hs.form
 have hgt := hv.2.1
 obtain ⟨R, hR⟩ : ∃ R, R = @ite _ P (Classical.propDecidable P) (some T.flat) none := ⟨_, rfl⟩
 rw [← hR] at hr
 have HR := tuck hR
 clear hR
 have HC : Hid (∀ w0 : World, Below w.heap.size w w0 → w0.heap[w.heap.size + 1 + 1]? = some (.cells #[.slice none 0 0, .int .i64 (0 : Nat)] 170 (0, 0)) →
   Calls Tryz.prog 92 #[.pointer (some ⟨w.heap.size + 1 + 1, 0, none⟩), .agg #[.int .i64 t.kind, .int .i64 t.num, .slice a t.kids.length cap], .agg #[.int .i64 0, .int .i64 1], .func (.func f) #[] cs] w0 (UsePost (BufAt (w.heap.size + 1 + 1) 0) (fun i => i = w.heap.size + 1 + 1 ∨ (Value.slice none 0 0).ownBlock = some i) w0 R)) := fun w0 hb hc => by
  have hM : ∀ i, (i = w.heap.size + 1 + 1 ∨ (Value.slice none 0 0).ownBlock = some i) → w.heap.size ≤ i := by
   rintro i (rfl | h)
   ·omega
   ·cases h
  have h := copyTerm_any (u0 := u0) (s := []) (b := 0) (d := 1) (D := 200) (by omega) t _ (bAfter hu hb) (fun i hi => Nat.le_trans hu.size (hM i hi)) hcf (hU w0 _ (w.heap.size + 1 + 1) hb hM) ⟨_, hc, World.ownsRow_nil _ _ _ _, by simp, rfl⟩ hv.1 hmo ⟨_, rfl, hs⟩ (by omega) (by omega) (by omega) (by omega)
  rw [hr] at h
  exact h
 clear hU hr hu hs hcf hgt
 have hb3 := below3 w (.cells #[.int .i64 t.kind, .int .i64 t.num, .slice a t.kids.length cap] 25) (.cells #[.int .i64 0, .int .i64 0, .slice none 0 0] 25) (.cells #[.slice none 0 0, .int .i64 0] 170)
 have hbuf : (((w.alloc (.cells #[.int .i64 t.kind, .int .i64 t.num, .slice a t.kids.length cap] 25)).alloc (.cells #[.int .i64 0, .int .i64 0, .slice none 0 0] 25)).alloc (.cells #[.slice none 0 0, .int .i64 0] 170)).heap[w.heap.size + 1 + 1]? = some (.cells #[.slice none 0 0, .int .i64 (0 : Nat)] 170 (0, 0)) := by
  have := heap_new ((w.alloc (.cells #[.int .i64 t.kind, .int .i64 t.num, .slice a t.kids.length cap] 25)).alloc (.cells #[.int .i64 0, .int .i64 0, .slice none 0 0] 25)) (.cells #[.slice none 0 0, .int .i64 0] 170)
  rw [show ((w.alloc (.cells #[.int .i64 t.kind, .int .i64 t.num, .slice a t.kids.length cap] 25)).alloc (.cells #[.int .i64 0, .int .i64 0, .slice none 0 0] 25)).heap.size = w.heap.size + 1 + 1 by simp] at this
  exact this
 have hvar : VarAt (w.heap.size + 1) 0 0 (.slice none 0 0) (((w.alloc (.cells #[.int .i64 t.kind, .int .i64 t.num, .slice a t.kids.length cap] 25)).alloc (.cells #[.int .i64 0, .int .i64 0, .slice none 0 0] 25)).alloc (.cells #[.slice none 0 0, .int .i64 0] 170)) := by
  have := (VarAt.new (w.alloc (.cells #[.int .i64 t.kind, .int .i64 t.num, .slice a t.kids.length cap] 25)) 0 0 (.slice none 0 0)).below (below1 _ (.cells #[.slice none 0 0, .int .i64 0] 170))
  rw [show (w.alloc (.cells #[.int .i64 t.kind, .int .i64 t.num, .slice a t.kids.length cap] 25)).heap.size = w.heap.size + 1 by simp] at this
  exact this
 have hbox : w.heap.size < (((w.alloc (.cells #[.int .i64 t.kind, .int .i64 t.num, .slice a t.kids.length cap] 25)).alloc (.cells #[.int .i64 0, .int .i64 0, .slice none 0 0] 25)).alloc (.cells #[.slice none 0 0, .int .i64 0] 170)).heap.size ∧
   (((w.alloc (.cells #[.int .i64 t.kind, .int .i64 t.num, .slice a t.kids.length cap] 25)).alloc (.cells #[.int .i64 0, .int .i64 0, .slice none 0 0] 25)).alloc (.cells #[.slice none 0 0, .int .i64 0] 170)).cell? ⟨w.heap.size, 0, none⟩ = some (.int .i64 t.kind) ∧
   (((w.alloc (.cells #[.int .i64 t.kind, .int .i64 t.num, .slice a t.kids.length cap] 25)).alloc (.cells #[.int .i64 0, .int .i64 0, .slice none 0 0] 25)).alloc (.cells #[.slice none 0 0, .int .i64 0] 170)).cell? ⟨w.heap.size, 1, none⟩ = some (.int .i64 t.num) ∧
   (((w.alloc (.cells #[.int .i64 t.kind, .int .i64 t.num, .slice a t.kids.length cap] 25)).alloc (.cells #[.int .i64 0, .int .i64 0, .slice none 0 0] 25)).alloc (.cells #[.slice none 0 0, .int .i64 0] 170)).cell? ⟨w.heap.size, 2, none⟩ = some (.slice a t.kids.length cap) :=
  ⟨by simp; omega, by go_simp, by go_simp, by go_simp⟩
 have HB3 := tuck hb3
 have HBUF := tuck hbuf
 have HVAR := tuck hvar
 have HBOX := tuck hbox
 clear hb3 hbuf hvar hbox
 have HPN : Hid (¬ P → ∀ w', Below w.heap.size w w' → ReplPost w P T (.returned (.tuple #[.agg #[.int .i64 0, .int .i64 0, .slice none 0 0], .bool false])) w') := fun h w' hb => ReplPost.no h hb
 have HPY : Hid (P → ∀ w' s F, Below w.heap.size w w' → SlOwn w' T.kids s F → F.Nodup → (∀ g ∈ F, w.heap.size ≤ g ∧ g < w'.heap.size) → ReplPost w P T (.returned (.tuple #[.agg #[.int .i64 T.kind, .int .i64 T.num, s], .bool true])) w') := fun h w' s F h1 h2 h3 h4 => ReplPost.yes h h1 h2 h3 h4
 generalize ReplPost w P T = post at *
 go_enter Tryz.func88, Tryz.ntmps88
 go_wp2_with fail
 obtain ⟨z0, b0, b1, b2⟩ := HBOX.out
 generalize (((w.alloc (.cells #[.int .i64 t.kind, .int .i64 t.num, .slice a t.kids.length cap] 25)).alloc (.cells #[.int .i64 0, .int .i64 0, .slice none 0 0] 25)).alloc (.cells #[.slice none 0 0, .int .i64 0] 170)) = W0 at *
 have hzb : w.heap.size + 1 + 1 < W0.heap.size := (block_of_cells HBUF.out).1
 go_region_held3 (fun w' => w.heap.size < w'.heap.size ∧ w'.cell? ⟨w.heap.size, 0, none⟩ = some (.int .i64 t.kind) ∧ w'.cell? ⟨w.heap.size, 1, none⟩ = some (.int .i64 t.num) ∧ w'.cell? ⟨w.heap.size, 2, none⟩ = some (.slice a t.kids.length cap)) (first | exact HBOX.out | exact box3_step (by assumption) hs3 (fun h => by rcases h with h | h; omega; cases h) | exact box3_below (by assumption) hb1) (first | (go_at_call 93; refine (rootSpot_any _).mono ?_; rintro e w1 ⟨rfl, hb1⟩) | (go_at_call 92; refine (HC.out _ (bAfter HB3.out (bAfter (Below.refl _ _).drew hb1)) ((hb1.block _ hzb).trans HBUF.out)).mono ?_; rintro e w3 ⟨M3, hs3, rfl, hst3⟩))
 all_goals
  have hbw1 : Below w.heap.size w w1 := bAfter HB3.out (bAfter (Below.refl _ _).drew hb1)
  have hz1 : w.heap.size + 1 + 1 < w1.heap.size := Nat.lt_of_lt_of_le hzb hb1.size
  have hbw3 : Below w.heap.size w w3 := hs3.below hbw1 (by omega) (fun i hi => by
   rcases hi with rfl | h
   ·omega
   ·cases h)
  have hv3 : VarAt (w.heap.size + 1) 0 0 (.slice none 0 0) w3 := (hs3.block (w.heap.size + 1) (by omega) (fun h => by
   rcases h with h | h
   ·omega
   ·cases h)).trans ((HVAR.out.below (Below.refl _ _).drew).below hb1)
  have HBW3 := tuck hbw3
  have HV3 := tuck hv3
  have HST3 := tuck hst3
  clear hb1 hs3 hst3 hbw1 hz1 hbw3 hv3 HC hzb z0 b0 b1 b2
  obtain ⟨zv, v0, v1, v2, vf⟩ := HV3.out.facts
  by_cases hP : P
  ·have e : R = some T.flat := HR.out.trans (if_pos hP)
   subst e
   have hst := HST3.out _ rfl
   simp only [Option.isSome_some, Option.isNone_some]
   obtain ⟨bv, hb0, hown, h400, -⟩ := hst
   obtain ⟨rb, rc, hbv, hrb, hrl⟩ := hown.form (flat_pos T)
   subst hbv
   have hcell := hown.cells (g := rb) rfl
   have HROW : Hid (RowHas rb ([] ++ (Tm.mk T.kind T.num T.kids).flat ++ []) w3) := by
    refine ⟨hrl, fun j u hu => ?_⟩
    rw [List.nil_append, List.append_nil, Tm.eta] at hu
    have := hcell j u hu
    have hadd : (⟨rb, 0, none⟩ : Addr).add j = ⟨rb, j, none⟩ := by unfold Addr.add; split <;> simp_all
    rwa [hadd] at this
   have hlen : ([] ++ (Tm.mk T.kind T.num T.kids).flat ++ []).length = T.flat.length := by rw [List.nil_append, List.append_nil, Tm.eta]
   have hnx := next_any (g := w.heap.size + 1 + 1) (rb := rb) (cap := rc) T.kids T.kind T.num [] [] w3 h400 hlen (by omega) hb0 HROW.out
   rw [Tm.eta] at hnx
   have HNX := tuck hnx
   have HPY' := tuck (HPY.out hP)
   clear hnx hlen hcell hb0 hown h400 hrb hrl
   go_wp2_with fail
   refine HNX.out.mono ?_
   rintro e w4 ⟨sv, F, rfl, hso, hnd, hF, ho, -⟩
   obtain ⟨sva, svc, rfl⟩ := hso.form
   have hv4 := HV3.out.only ho (by omega)
   obtain ⟨zv4, v40, v41, v42, v4f⟩ := hv4.facts
   have HSO := tuck hso
   have HND := tuck hnd
   have HF := tuck hF
   have HB4 : Hid (Below w.heap.size w w4) := Only.below HBW3.out ho (by omega) HBW3.out.size
   have hz3 := HBW3.out.size
   clear hso hnd hF ho hv4
   go_wp2_with fail
   refine bodyPost_ret (v := .tuple #[.agg #[.int .i64 T.kind, .int .i64 T.num, .slice sva T.kids.length svc], .bool true]) (by simp [results, Tryz.results88, go_sem, *]) rfl (HPY'.out _ _ F ?_ ?_ HND.out fun x hx => ?_)
   ·exact bSet3 HB4.out (Nat.le_succ _) _ _ _ _ _ _
   ·exact HSO.out.set3 (fun h => by have := (HF.out _ h).1; omega) _ _ _ _ _ _
   ·rw [size_set3]
    have := HF.out x hx
    omega
  ·have e : R = none := HR.out.trans (if_neg hP)
   subst e
   have HPN' := tuck (HPN.out hP)
   simp only [Option.isSome_none, Option.isNone_none]
   go_wp2_with fail
   refine bodyPost_ret (v := .tuple #[.agg #[.int .i64 0, .int .i64 0, .slice none 0 0], .bool false]) (by simp [results, Tryz.results88, go_sem, *]) rfl (HPN'.out _ ?_)
   exact bSet3 HBW3.out (Nat.le_succ _) _ _ _ _ _ _
set_option maxRecDepth 100000 in
theorem subst1_ok {L : Int} {u0 w0 : World} {M0 : Nat → Prop} {g gx gu : Nat} {x : Int} {u : Tm} {ua : Option Addr} {uc : Nat} (hx0 : 0 ≤ x) (hx1 : x ≤ 20) (hu : Below u0.heap.size u0 w0) (hM : ∀ i, M0 i → u0.heap.size ≤ i) (hok : u.allOk) (hh : u.hgt ≤ 100)
  (hin : SlIn u0 0 u.kids (.slice ua u.kids.length uc)) (hgx : gx < w0.heap.size) (hxm : ¬ M0 gx) (hxc : w0.cell? ⟨gx, 0, none⟩ = some (.int .i64 x)) (hgu : gu < w0.heap.size) (hum : ¬ M0 gu) (hvu : VarAt gu u.kind u.num (.slice ua u.kids.length uc) w0) :
  UseRepl 200 L w0 M0 g 89 #[.pointer (some ⟨gx, 0, none⟩), .pointer (some ⟨gu, 0, none⟩)] (subMay u x) (subTo u x) := by
 intro w s M i b d hstep hst hi0 hi1 _ hb0 hb1 hd0 hd1
 have hlt := hst.lt
 have k0 := (hstep.cell (p := ⟨gx, 0, none⟩) hgx hxm).trans hxc
 have hvu' : VarAt gu u.kind u.num (.slice ua u.kids.length uc) w := (hstep.block gu hgu hum).trans hvu
 obtain ⟨zu, u1, u2, u3, -⟩ := hvu'.facts
 have hgw : gx < w.heap.size := Nat.lt_of_lt_of_le hgx hstep.size
 have hA := fun j h0 h1 => addVar_any g s j b d (w.alloc (.cells #[.int .i64 b, .int .i64 d] 163)) M (hst.below _ _ _ _ (below1 _ _)) h0 h1 hb0 (by omega) hd0 (by omega)
 have hI := insert_any (u0 := u0) (g := g) (s := s) (b := b) (d := d) (w := w.alloc (.cells #[.int .i64 b, .int .i64 d] 163)) u _ (bAfter (hstep.below hu hu.size hM) (below1 _ _)) (hstep.ge hu.size hM) (hst.below _ _ _ _ (below1 _ _)) hok ⟨_, rfl, hin⟩ hh hb0 hb1 hd0 hd1
 show Calls Tryz.prog _ #[.pointer (some ⟨g, 0, none⟩), .int .i64 i, .agg #[.int .i64 b, .int .i64 d], .pointer (some ⟨gx, 0, none⟩), .pointer (some ⟨gu, 0, none⟩)] w _
 by_cases h1 : i < x
 ·have g1 : decide (i < x) = true := by simpa using h1
  have HA := tuck (hA i hi0 (by omega))
  have HP : Hid (∀ e' w', UsePost (BufAt g 0) M (w.alloc (.cells #[.int .i64 b, .int .i64 d] 163)) (emit (0 ≤ i + b ∧ i + b ≤ 20) (varT (i + b)) d s) e' w' → UsePost (BufAt g 0) M w (emit (subMay u x i b) (subTo u x i b) d s) e' w') := fun e' w' ⟨M', a1, a2, a3⟩ => by
   rw [show subTo u x i b = varT (i + b) by unfold subTo; rw [if_pos h1], emit_iff (show subMay u x i b ↔ (0 ≤ i + b ∧ i + b ≤ 20) by unfold subMay; rw [if_pos h1])]
   exact ⟨M', (Step.of_below (below1 _ _) hlt).trans a1, a2, a3⟩
  generalize UsePost (BufAt g 0) M w (emit (subMay u x i b) (subTo u x i b) d s) = post at *
  clear hstep hst hxc hlt hA hI h1 hvu hvu' hin
  go_enter Tryz.func89, Tryz.ntmps89
  go_wp2_with fail
  refine HA.out.mono ?_
  rintro e' w2 hp
  have HPP := tuck (HP.out e' w2 hp)
  obtain ⟨M', _, rfl, _⟩ := hp
  go_wp2_with fail
  exact HPP.out
 ·have g1 : decide (i < x) = false := by simpa using h1
  by_cases h2 : x < i
  ·have g2 : decide (x < i) = true := by simpa using h2
   have HA := tuck (hA (i - 1) (by omega) (by omega))
   have HP : Hid (∀ e' w', UsePost (BufAt g 0) M (w.alloc (.cells #[.int .i64 b, .int .i64 d] 163)) (emit (0 ≤ i - 1 + b ∧ i - 1 + b ≤ 20) (varT (i - 1 + b)) d s) e' w' → UsePost (BufAt g 0) M w (emit (subMay u x i b) (subTo u x i b) d s) e' w') := fun e' w' ⟨M', a1, a2, a3⟩ => by
    rw [show subTo u x i b = varT (i - 1 + b) by unfold subTo; rw [if_neg h1, if_pos h2], emit_iff (show subMay u x i b ↔ (0 ≤ i - 1 + b ∧ i - 1 + b ≤ 20) by unfold subMay; rw [if_neg h1, if_pos h2])]
    exact ⟨M', (Step.of_below (below1 _ _) hlt).trans a1, a2, a3⟩
   generalize UsePost (BufAt g 0) M w (emit (subMay u x i b) (subTo u x i b) d s) = post at *
   clear hstep hst hxc hlt hA hI h1 hvu hvu' hin
   go_enter Tryz.func89, Tryz.ntmps89
   go_wp2_with fail
   refine HA.out.mono ?_
   rintro e' w2 hp
   have HPP := tuck (HP.out e' w2 hp)
   obtain ⟨M', _, rfl, _⟩ := hp
   go_wp2_with fail
   exact HPP.out
  ·have g2 : decide (x < i) = false := by simpa using h2
   have HI := tuck hI
   have HP : Hid (∀ e' w', UsePost (BufAt g 0) M (w.alloc (.cells #[.int .i64 b, .int .i64 d] 163)) (emit (u.okAll (insMay b) 0) (u.repl (insTo b) 0) d s) e' w' → UsePost (BufAt g 0) M w (emit (subMay u x i b) (subTo u x i b) d s) e' w') := fun e' w' ⟨M', a1, a2, a3⟩ => by
    rw [show subTo u x i b = u.repl (insTo b) 0 by unfold subTo; rw [if_neg h1, if_neg h2], emit_iff (show subMay u x i b ↔ u.okAll (insMay b) 0 by unfold subMay; rw [if_neg h1, if_neg h2])]
    exact ⟨M', (Step.of_below (below1 _ _) hlt).trans a1, a2, a3⟩
   generalize UsePost (BufAt g 0) M w (emit (subMay u x i b) (subTo u x i b) d s) = post at *
   generalize emit (u.okAll (insMay b) 0) (u.repl (insTo b) 0) d s = res at *
   clear hstep hst hxc hlt hA hI h1 hvu hvu' hin
   go_enter Tryz.func89, Tryz.ntmps89
   go_wp2_with fail
   refine HI.out.mono ?_
   rintro e' w2 hp
   have HPP := tuck (HP.out e' w2 hp)
   obtain ⟨M', _, rfl, _⟩ := hp
   go_wp2_with fail
   exact HPP.out
end Go.Proofs.YtlbikgnanabjgaaGreat
namespace Go.Proofs.YtlbikgnanabjgaaGreat
open Go.RowKit
theorem ReplPost.open {W w2 : World} {P : Prop} {T : Tm} {e : Ending} (h : ReplPost W P T e w2) : ∃ (U : Tm) (sa : Option Addr) (sc : Nat) (F : List Nat), U = orZero P T ∧ e = .returned (.tuple #[.agg #[.int .i64 U.kind, .int .i64 U.num, .slice sa U.kids.length sc], .bool (tr P)]) ∧ Below W.heap.size W w2 ∧
  SlOwn w2 U.kids (.slice sa U.kids.length sc) F ∧ F.Nodup ∧ (∀ g ∈ F, W.heap.size ≤ g ∧ g < w2.heap.size) := by
 obtain ⟨hb, v, rfl, s, F, rfl, hs, hn, hF⟩ := h
 obtain ⟨sa, sc, rfl⟩ := hs.form
 exact ⟨_, sa, sc, F, rfl, rfl, hb, hs, hn, hF⟩
theorem ReplPost.close {w w' : World} {P : Prop} {T U : Tm} {s : Value} {F : List Nat} (hU : U = orZero P T) (hb : Below w.heap.size w w') (hs : SlOwn w' U.kids s F) (hn : F.Nodup) (hF : ∀ g ∈ F, w.heap.size ≤ g ∧ g < w'.heap.size) :
  ReplPost w P T (.returned (.tuple #[.agg #[.int .i64 U.kind, .int .i64 U.num, s], .bool (tr P)])) w' := by
 subst hU
 exact ⟨hb, _, rfl, s, F, rfl, hs, hn, hF⟩
theorem most_valid {t : Tm} (h : t.Valid) : t.most 0 ≤ 21 := (t.most_bd 0 h.1 (Int.le_refl 0)).2
set_option maxRecDepth 100000 in
theorem substI_any (t u : Tm) (x : Int) (w : World) (v v' : Value) (h : TmIn w 0 t v) (h' : TmIn w 0 u v') : Calls Tryz.prog 86 #[v, .int .i64 x, v'] w (ReplPost w (SubstOk t x u) (t.subst u x 0)) := by
 obtain ⟨s, rfl, hs⟩ := h
 obtain ⟨a, cap, rfl⟩ := hs.form
 obtain ⟨s', rfl, hs'⟩ := h'
 obtain ⟨a', cap', rfl⟩ := hs'.form
 have HS := tuck hs
 have HS' := tuck hs'
 have HV : Hid (∀ w', Below w.heap.size w w' → Calls Tryz.prog 10 #[.agg #[.int .i64 t.kind, .int .i64 t.num, .slice a t.kids.length cap]] w' (BoolPost w' (tr t.Valid))) := fun w' h => validI_any t w' _ ⟨_, rfl, hs.below h⟩
 have HVU' : Hid (∀ w', Below w.heap.size w w' → Calls Tryz.prog 10 #[.agg #[.int .i64 u.kind, .int .i64 u.num, .slice a' u.kids.length cap']] w' (BoolPost w' (tr u.Valid))) := fun w' h => validI_any u w' _ ⟨_, rfl, hs'.below h⟩
 have HX := tuck (indexValid_any x)
 have HN : Hid (¬ SubstOk t x u → ∀ w', Below w.heap.size w w' → ReplPost w (SubstOk t x u) (t.subst u x 0) (.returned (.tuple #[.agg #[.int .i64 0, .int .i64 0, .slice none 0 0], .bool false])) w') := fun h w' hb => ReplPost.no h hb
 clear hs hs'
 by_cases hv : t.Valid
 rotate_left
 ·rw [tr_not hv] at HV
  replace HN := tuck (HN.out (fun h => hv h.1))
  generalize ReplPost w (SubstOk t x u) (t.subst u x 0) = post at *
  clear hv
  go_enter Tryz.func86, Tryz.ntmps86
  go_wp2_with fail
  refine (HV.out _ (below3 _ _ _ _)).mono ?_
  rintro e' w1 ⟨rfl, hb⟩
  have HB := tuck (bAfter (below3 _ _ _ _) hb)
  have hv1 := ((VarAt.new ((w.alloc (.cells #[.int .i64 t.kind, .int .i64 t.num, .slice a t.kids.length cap] 25)).alloc (.cells #[.int .i64 u.kind, .int .i64 u.num, .slice a' u.kids.length cap'] 25)) 0 0 (.slice none 0 0)).below hb)
  rw [show ((w.alloc (.cells #[.int .i64 t.kind, .int .i64 t.num, .slice a t.kids.length cap] 25)).alloc (.cells #[.int .i64 u.kind, .int .i64 u.num, .slice a' u.kids.length cap'] 25)).heap.size = w.heap.size + 1 + 1 by simp] at hv1
  obtain ⟨zv, v0, v1, v2, vf⟩ := hv1.facts
  clear hb hv1
  go_wp2_with fail
  refine bodyPost_ret (v := .tuple #[.agg #[.int .i64 0, .int .i64 0, .slice none 0 0], .bool false]) (by simp [results, Tryz.results86, go_sem, *]) rfl (HN.out _ ?_)
  exact bSet3 HB.out (by omega) _ _ _ _ _ _
 rw [tr_of hv] at HV
 by_cases hu : u.Valid
 rotate_left
 ·rw [tr_not hu] at HVU'
  replace HN := tuck (HN.out (fun h => hu h.2.1))
  generalize ReplPost w (SubstOk t x u) (t.subst u x 0) = post at *
  clear hv hu
  go_enter Tryz.func86, Tryz.ntmps86
  go_wp2_with fail
  refine (HV.out _ (below3 _ _ _ _)).mono ?_
  rintro e' w1 ⟨rfl, hb⟩
  have HB := tuck (bAfter (below3 _ _ _ _) hb)
  have hv1 := ((VarAt.new ((w.alloc (.cells #[.int .i64 t.kind, .int .i64 t.num, .slice a t.kids.length cap] 25)).alloc (.cells #[.int .i64 u.kind, .int .i64 u.num, .slice a' u.kids.length cap'] 25)) 0 0 (.slice none 0 0)).below hb)
  rw [show ((w.alloc (.cells #[.int .i64 t.kind, .int .i64 t.num, .slice a t.kids.length cap] 25)).alloc (.cells #[.int .i64 u.kind, .int .i64 u.num, .slice a' u.kids.length cap'] 25)).heap.size = w.heap.size + 1 + 1 by simp] at hv1
  have hvu := ((VarAt.new (w.alloc (.cells #[.int .i64 t.kind, .int .i64 t.num, .slice a t.kids.length cap] 25)) u.kind u.num (.slice a' u.kids.length cap')).below (below1 _ (.cells #[.int .i64 0, .int .i64 0, .slice none 0 0] 25))).below hb
  rw [show (w.alloc (.cells #[.int .i64 t.kind, .int .i64 t.num, .slice a t.kids.length cap] 25)).heap.size = w.heap.size + 1 by simp] at hvu
  obtain ⟨zu, u0, u1, u2, -⟩ := hvu.facts
  have HVU := tuck hvu
  have HV1 := tuck hv1
  clear hb hvu hv1
  go_wp2_with fail
  refine (HVU'.out _ HB.out).mono ?_
  rintro e' w2 ⟨rfl, hb⟩
  replace HB := tuck (bAfter HB.out hb)
  replace HV1 := tuck (HV1.out.below hb)
  replace HVU := tuck (HVU.out.below hb)
  clear hb zu u0 u1 u2
  obtain ⟨zu, u0, u1, u2, -⟩ := HVU.out.facts
  obtain ⟨zv, v0, v1, v2, vf⟩ := HV1.out.facts
  go_wp2_with fail
  refine bodyPost_ret (v := .tuple #[.agg #[.int .i64 0, .int .i64 0, .slice none 0 0], .bool false]) (by simp [results, Tryz.results86, go_sem, *]) rfl (HN.out _ ?_)
  exact bSet3 HB.out (by omega) _ _ _ _ _ _
 rw [tr_of hu] at HVU'
 by_cases h3 : 0 ≤ x ∧ x ≤ 20
 rotate_left
 ·rw [show decide (0 ≤ x ∧ x ≤ 20) = false by simpa using h3] at HX
  replace HN := tuck (HN.out (fun h => h3 ⟨h.2.2.1, h.2.2.2.1⟩))
  generalize ReplPost w (SubstOk t x u) (t.subst u x 0) = post at *
  clear hv hu h3
  go_enter Tryz.func86, Tryz.ntmps86
  go_wp2_with fail
  refine (HV.out _ (below3 _ _ _ _)).mono ?_
  rintro e' w1 ⟨rfl, hb⟩
  have HB := tuck (bAfter (below3 _ _ _ _) hb)
  have hv1 := ((VarAt.new ((w.alloc (.cells #[.int .i64 t.kind, .int .i64 t.num, .slice a t.kids.length cap] 25)).alloc (.cells #[.int .i64 u.kind, .int .i64 u.num, .slice a' u.kids.length cap'] 25)) 0 0 (.slice none 0 0)).below hb)
  rw [show ((w.alloc (.cells #[.int .i64 t.kind, .int .i64 t.num, .slice a t.kids.length cap] 25)).alloc (.cells #[.int .i64 u.kind, .int .i64 u.num, .slice a' u.kids.length cap'] 25)).heap.size = w.heap.size + 1 + 1 by simp] at hv1
  have hvu := ((VarAt.new (w.alloc (.cells #[.int .i64 t.kind, .int .i64 t.num, .slice a t.kids.length cap] 25)) u.kind u.num (.slice a' u.kids.length cap')).below (below1 _ (.cells #[.int .i64 0, .int .i64 0, .slice none 0 0] 25))).below hb
  rw [show (w.alloc (.cells #[.int .i64 t.kind, .int .i64 t.num, .slice a t.kids.length cap] 25)).heap.size = w.heap.size + 1 by simp] at hvu
  obtain ⟨zu, u0, u1, u2, -⟩ := hvu.facts
  have HVU := tuck hvu
  have HV1 := tuck hv1
  clear hb hvu hv1
  go_wp2_with fail
  refine (HVU'.out _ HB.out).mono ?_
  rintro e' w2 ⟨rfl, hb⟩
  replace HB := tuck (bAfter HB.out hb)
  replace HV1 := tuck (HV1.out.below hb)
  replace HVU := tuck (HVU.out.below hb)
  clear hb zu u0 u1 u2
  obtain ⟨zu, u0, u1, u2, -⟩ := HVU.out.facts
  obtain ⟨zv, v0, v1, v2, vf⟩ := HV1.out.facts
  go_wp2_with (go_at_call 87; refine (HX.out _).mono ?_; rintro e' w' ⟨rfl, rfl⟩)
  refine bodyPost_ret (v := .tuple #[.agg #[.int .i64 0, .int .i64 0, .slice none 0 0], .bool false]) (by simp [results, Tryz.results86, go_sem, *]) rfl (HN.out _ ?_)
  exact bSet3 HB.out (by omega) _ _ _ _ _ _
 rw [show decide (0 ≤ x ∧ x ≤ 20) = true by simpa using h3] at HX
 have huh : u.hgt ≤ 100 := by have := hu.2.1; omega
 have HR : Hid (∀ (W : World) (gx gu : Nat), Below w.heap.size w W → gx < W.heap.size → gu < W.heap.size → W.cell? ⟨gx, 0, none⟩ = some (.int .i64 x) → VarAt gu u.kind u.num (.slice a' u.kids.length cap') W →
   Calls Tryz.prog 88 #[.agg #[.int .i64 t.kind, .int .i64 t.num, .slice a t.kids.length cap], .func (.func 89) #[] #[.pointer (some ⟨gx, 0, none⟩), .pointer (some ⟨gu, 0, none⟩)]] W (ReplPost W (SubstOk t x u) (t.subst u x 0))) := fun W gx gu hb hgx hgu hxc hvu =>
  replaceFree_any (L := 21) t W w _ (fun _ _ => by kernel_rfl) hb (fun w0 M0 g hb0 hM0 => subst1_ok h3.1 h3.2 (bAfter hb hb0) (fun i hi => Nat.le_trans hb.size (hM0 i hi)) hu.1 huh HS'.out (Nat.lt_of_lt_of_le hgx hb0.size) (fun h => by have := hM0 _ h; omega) ((hb0.cell (p := ⟨gx, 0, none⟩) hgx).trans hxc) (Nat.lt_of_lt_of_le hgu hb0.size) (fun h => by have := hM0 _ h; omega) (hvu.below hb0)) hv (most_valid hv) ⟨_, rfl, HS.out⟩
   ((Tm.trav_copy _ _ t 0 1 [] hv.1 (by simp)).symm.trans (emit_subst hv hu h3.1 h3.2))
 have HP : Hid (∀ (w' : World) (U : Tm) (s : Value) (F : List Nat), U = orZero (SubstOk t x u) (t.subst u x 0) → Below w.heap.size w w' → SlOwn w' U.kids s F → F.Nodup → (∀ g ∈ F, w.heap.size ≤ g ∧ g < w'.heap.size) → ReplPost w (SubstOk t x u) (t.subst u x 0) (.returned (.tuple #[.agg #[.int .i64 U.kind, .int .i64 U.num, s], .bool (tr (SubstOk t x u))])) w') := fun w' U s F a1 a2 a3 a4 a5 => ReplPost.close a1 a2 a3 a4 a5
 generalize t.subst u x 0 = T at *
 generalize SubstOk t x u = Q at *
 generalize hpost : ReplPost w Q T = post at *
 clear hv hu h3 hpost
 go_enter Tryz.func86, Tryz.ntmps86
 go_wp2_with fail
 refine (HV.out _ (below3 _ _ _ _)).mono ?_
 rintro e' w1 ⟨rfl, hb⟩
 have HB := tuck (bAfter (below3 _ _ _ _) hb)
 have hv1 := ((VarAt.new ((w.alloc (.cells #[.int .i64 t.kind, .int .i64 t.num, .slice a t.kids.length cap] 25)).alloc (.cells #[.int .i64 u.kind, .int .i64 u.num, .slice a' u.kids.length cap'] 25)) 0 0 (.slice none 0 0)).below hb)
 rw [show ((w.alloc (.cells #[.int .i64 t.kind, .int .i64 t.num, .slice a t.kids.length cap] 25)).alloc (.cells #[.int .i64 u.kind, .int .i64 u.num, .slice a' u.kids.length cap'] 25)).heap.size = w.heap.size + 1 + 1 by simp] at hv1
 have hvt := (((VarAt.new w t.kind t.num (.slice a t.kids.length cap)).below (below1 _ (.cells #[.int .i64 u.kind, .int .i64 u.num, .slice a' u.kids.length cap'] 25))).below (below1 _ (.cells #[.int .i64 0, .int .i64 0, .slice none 0 0] 25))).below hb
 have HVT := tuck hvt
 clear hvt
 have hvu := ((VarAt.new (w.alloc (.cells #[.int .i64 t.kind, .int .i64 t.num, .slice a t.kids.length cap] 25)) u.kind u.num (.slice a' u.kids.length cap')).below (below1 _ (.cells #[.int .i64 0, .int .i64 0, .slice none 0 0] 25))).below hb
 rw [show (w.alloc (.cells #[.int .i64 t.kind, .int .i64 t.num, .slice a t.kids.length cap] 25)).heap.size = w.heap.size + 1 by simp] at hvu
 obtain ⟨zu, u0, u1, u2, -⟩ := hvu.facts
 have HVU := tuck hvu
 have HV1 := tuck hv1
 clear hb hvu hv1
 go_wp2_with fail
 refine (HVU'.out _ HB.out).mono ?_
 rintro e' w2 ⟨rfl, hb⟩
 replace HB := tuck (bAfter HB.out hb)
 replace HV1 := tuck (HV1.out.below hb)
 replace HVU := tuck (HVU.out.below hb)
 replace HVT := tuck (HVT.out.below hb)
 clear hb zu u0 u1 u2
 obtain ⟨zu, u0, u1, u2, -⟩ := HVU.out.facts
 obtain ⟨zt, t0, t1, t2, -⟩ := HVT.out.facts
 go_wp2_with (go_at_call 87; refine (HX.out _).mono ?_; rintro e' w' ⟨rfl, rfl⟩)
 have hbw : Below w.heap.size w (w2.alloc (.cells #[.int .i64 x] 159)) := bAfter HB.out (below1 _ _)
 refine (HR.out _ w2.heap.size (w.heap.size + 1) hbw (by simp) (by simp; omega) (by go_simp) (HVU.out.below (below1 _ _))).mono ?_
 rintro e' w3 hp
 obtain ⟨U, sa, sc, F, hU, rfl, hb2, hs2, hn2, hF2⟩ := hp.open
 have hv2 := (HV1.out.below (below1 _ (.cells #[.int .i64 x] 159))).below hb2
 obtain ⟨zv2, v20, v21, v22, v2f⟩ := hv2.facts
 have hz2 : w.heap.size + 1 + 1 < w2.heap.size := HV1.out.facts.1
 have HB2 := tuck (bAfter hbw hb2)
 have HS2 := tuck hs2
 have HN2 := tuck hn2
 have HF2 := tuck hF2
 have HU := tuck hU
 have hzw := hbw.size
 clear hb2 hs2 hn2 hF2 hv2 hU hbw HR HV1 t0 t1 t2 u0 u1 u2
 generalize tr Q = r at *
 go_wp2_with fail
 refine bodyPost_ret (v := .tuple #[.agg #[.int .i64 U.kind, .int .i64 U.num, .slice sa U.kids.length sc], .bool r]) (by simp [results, Tryz.results86, go_sem, *]) rfl (HP.out _ U _ F HU.out ?_ ?_ HN2.out fun y hy => ?_)
 ·exact bSet3 HB2.out (by omega) _ _ _ _ _ _
 ·exact HS2.out.set3 (fun h => by have := (HF2.out _ h).1; simp at this; omega) _ _ _ _ _ _
 ·rw [size_set3]
  have := HF2.out y hy
  omega
end Go.Proofs.YtlbikgnanabjgaaGreat
