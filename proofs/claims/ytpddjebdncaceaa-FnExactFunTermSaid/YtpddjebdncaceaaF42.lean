/-
  NfG.
-/
import Derived.Test.YtpddjebdncaceaaF13
import Derived.Test.YtpddjebdncaceaaF30
import Derived.Test.YtpddjebdncaceaaF41
namespace Go.Proofs.Ytpddjebdncaceaa
open Go.RowKit
set_option linter.unusedVariables false
set_option linter.unusedSimpArgs false
theorem nfT_size (f : Int) : (nfT f).size ≤ 1000 := by
 unfold nfT
 repeat' split
 all_goals decide
theorem nfT_none {f : Int} (h : f < 1 ∨ 7 < f) : nfT f = { data := #[] } := by
 unfold nfT
 repeat' split
 all_goals first | rfl | omega
theorem parsed_empty : parsed { data := #[] } = none := by
 rfl
theorem parsed_size (s : ByteArray) : sizes ((parsed s).getD zeroT).kids ≤ 1000000 := by
 have h1 : ((parsed s).getD zeroT).size ≤ 400 := by
  cases hp : parsed s with
  | none => simp [zeroT, Tm.size, sizes]
  | some U => exact (parsed_valid hp).1.2.2
 have h2 := ((parsed s).getD zeroT).size_eq
 omega
set_option maxRecDepth 100000 in
theorem plus10_any (w : World) : Calls Try.prog 18 #[] w (fun e w' => e = .returned (.string (nfT 1)) ∧ w' = w) := by
 have HP : Hid ((fun (e : Ending) w' => e = .returned (.string (nfT 1)) ∧ w' = w) (.returned (.string (nfT 1))) w) := tuck ⟨rfl, rfl⟩
 generalize (fun (e : Ending) w' => e = .returned (.string (nfT 1)) ∧ w' = w) = post at *
 go_enter Try.func18, Try.ntmps18
 go_wp2
 exact HP.out
def TextsPost (w : World) (e : Ending) (w' : World) : Prop := Below w.heap.size w w' ∧ ∃ g, e = .returned (.slice (some ⟨g, 0, none⟩) 8 8) ∧ g < w'.heap.size ∧ ∀ k : Nat, 1 ≤ k → k ≤ 7 → w'.cell? ⟨g, k, none⟩ = some (.string (nfT k))
set_option maxRecDepth 100000 in
theorem texts10_any (w : World) : Calls Try.prog 10 #[] w (TextsPost w) := by
 have HP : Hid (∀ c : Array Value, (∀ k : Nat, 1 ≤ k → k ≤ 7 → c[k]? = some (.string (nfT k))) → TextsPost w (.returned (.slice (some ⟨w.heap.size, 0, none⟩) 8 8)) (w.alloc (.cells c 9))) := tuck fun c h => ⟨below1 _ _, w.heap.size, rfl, by simp, fun k h1 h2 => by rw [World.cell?_alloc_new]; exact h k h1 h2⟩
 generalize TextsPost w = post at *
 go_enter Try.func10, Try.ntmps10
 go_wp2_with fail
 refine (plus10_any _).mono ?_
 rintro e w1 ⟨rfl, rfl⟩
 go_wp2_with fail
 refine HP.out _ fun k h1 h2 => ?_
 have hk : k = 1 ∨ k = 2 ∨ k = 3 ∨ k = 4 ∨ k = 5 ∨ k = 6 ∨ k = 7 := by omega
 rcases hk with rfl | rfl | rfl | rfl | rfl | rfl | rfl
 all_goals rfl
set_option maxRecDepth 100000 in
set_option maxHeartbeats 1600000 in
theorem funTermS_any (f : Int) (w : World) : Calls Try.prog 4 #[.int .i64 f] w (fun (e : Ending) (w' : World) => Below w.heap.size w w' ∧ ∃ (a0 : Option Addr) (c0 : Nat), e = .returned (.tuple #[.agg #[.int .i64 ((parsed (nfT f)).getD zeroT).kind, .int .i64 ((parsed (nfT f)).getD zeroT).num, .slice a0 ((parsed (nfT f)).getD zeroT).kids.length c0], .bool (parsed (nfT f)).isSome]) ∧ SlIn w' w.heap.size ((parsed (nfT f)).getD zeroT).kids (.slice a0 ((parsed (nfT f)).getD zeroT).kids.length c0)) := by
 by_cases hr : f < 1 ∨ 7 < f
 ·have HP : Hid (∀ W, Below w.heap.size w W → (fun (e : Ending) (w' : World) => Below w.heap.size w w' ∧ ∃ (a0 : Option Addr) (c0 : Nat), e = .returned (.tuple #[.agg #[.int .i64 ((parsed (nfT f)).getD zeroT).kind, .int .i64 ((parsed (nfT f)).getD zeroT).num, .slice a0 ((parsed (nfT f)).getD zeroT).kids.length c0], .bool (parsed (nfT f)).isSome]) ∧ SlIn w' w.heap.size ((parsed (nfT f)).getD zeroT).kids (.slice a0 ((parsed (nfT f)).getD zeroT).kids.length c0)) (.returned (.tuple #[.agg #[.int .i64 0, .int .i64 0, .slice none 0 0], .bool false])) W) := tuck fun W hb => by
   rw [nfT_none hr, parsed_empty]
   exact ⟨hb, none, 0, rfl, SlIn.nil _ _ _ _⟩
  generalize (fun (e : Ending) (w' : World) => Below w.heap.size w w' ∧ ∃ (a0 : Option Addr) (c0 : Nat), e = .returned (.tuple #[.agg #[.int .i64 ((parsed (nfT f)).getD zeroT).kind, .int .i64 ((parsed (nfT f)).getD zeroT).num, .slice a0 ((parsed (nfT f)).getD zeroT).kids.length c0], .bool (parsed (nfT f)).isSome]) ∧ SlIn w' w.heap.size ((parsed (nfT f)).getD zeroT).kids (.slice a0 ((parsed (nfT f)).getD zeroT).kids.length c0)) = post at *
  by_cases h1 : f < 1
  ·have hd : decide (f < 1) = true := decide_eq_true h1
   go_enter Try.func4, Try.ntmps4
   go_wp2
   refine bodyPost_ret (v := .tuple #[.agg #[.int .i64 0, .int .i64 0, .slice none 0 0], .bool false]) (by simp [results, Try.results4, go_sem]) rfl (HP.out _ ?_)
   exact below1 _ _
  ·have hd : decide (f < 1) = false := decide_eq_false h1
   have h2 : 7 < f := by omega
   go_enter Try.func4, Try.ntmps4
   go_wp2
   refine bodyPost_ret (v := .tuple #[.agg #[.int .i64 0, .int .i64 0, .slice none 0 0], .bool false]) (by simp [results, Try.results4, go_sem]) rfl (HP.out _ ?_)
   exact below1 _ _
 obtain ⟨k, rfl⟩ : ∃ k : Nat, f = k := ⟨f.toNat, by omega⟩
 have HP : Hid (∀ W a0 c0, Below w.heap.size w W → SlIn W w.heap.size ((parsed (nfT (k : Int))).getD zeroT).kids (.slice a0 ((parsed (nfT (k : Int))).getD zeroT).kids.length c0) → (fun (e : Ending) (w' : World) => Below w.heap.size w w' ∧ ∃ (a0 : Option Addr) (c0 : Nat), e = .returned (.tuple #[.agg #[.int .i64 ((parsed (nfT (k : Int))).getD zeroT).kind, .int .i64 ((parsed (nfT (k : Int))).getD zeroT).num, .slice a0 ((parsed (nfT (k : Int))).getD zeroT).kids.length c0], .bool (parsed (nfT (k : Int))).isSome]) ∧ SlIn w' w.heap.size ((parsed (nfT (k : Int))).getD zeroT).kids (.slice a0 ((parsed (nfT (k : Int))).getD zeroT).kids.length c0)) (.returned (.tuple #[.agg #[.int .i64 ((parsed (nfT (k : Int))).getD zeroT).kind, .int .i64 ((parsed (nfT (k : Int))).getD zeroT).num, .slice a0 ((parsed (nfT (k : Int))).getD zeroT).kids.length c0], .bool (parsed (nfT (k : Int))).isSome])) W) := tuck fun W a0 c0 hb hs => ⟨hb, a0, c0, rfl, hs⟩
 have HPA : Hid (∀ W, Calls Try.prog 9 #[.string (nfT (k : Int))] W (ParsePost (nfT (k : Int)) W)) := tuck fun W => parseT_any _ (by have := nfT_size (k : Int); omega) W
 generalize (fun (e : Ending) (w' : World) => Below w.heap.size w w' ∧ ∃ (a0 : Option Addr) (c0 : Nat), e = .returned (.tuple #[.agg #[.int .i64 ((parsed (nfT (k : Int))).getD zeroT).kind, .int .i64 ((parsed (nfT (k : Int))).getD zeroT).num, .slice a0 ((parsed (nfT (k : Int))).getD zeroT).kids.length c0], .bool (parsed (nfT (k : Int))).isSome]) ∧ SlIn w' w.heap.size ((parsed (nfT (k : Int))).getD zeroT).kids (.slice a0 ((parsed (nfT (k : Int))).getD zeroT).kids.length c0)) = post at *
 have h1 : ¬ ((k : Int) < 1) := by omega
 have h2 : ¬ (7 < (k : Int)) := by omega
 have h3 : 1 ≤ k := by omega
 have h4 : k ≤ 7 := by omega
 have h5 : (0 : Int) ≤ (k : Int) := by omega
 have h6 : (k : Int) < 8 := by omega
 clear hr
 have HB := tuck (below1 w (.cells #[.int .i64 0, .int .i64 0, .slice none 0 0] 24))
 have hzW : (w.alloc (.cells #[.int .i64 0, .int .i64 0, .slice none 0 0] 24)).heap.size = w.heap.size + 1 := by simp
 have HZ := tuck hzW
 clear hzW
 have HV := tuck (VarAt.new w 0 0 (.slice none 0 0))
 go_enter Try.func4, Try.ntmps4
 go_wp2_with fail
 generalize w.alloc (.cells #[.int .i64 0, .int .i64 0, .slice none 0 0] 24) = W0 at *
 refine (texts10_any _).mono ?_
 rintro e w1 ⟨hb, g, rfl, hg, hc⟩
 have c0 := hc k h3 h4
 replace HB := tuck (bAfter HB.out hb)
 replace HV := tuck (HV.out.below hb)
 have hsz := hb.size
 have HSZ : Hid (w.heap.size + 1 ≤ w1.heap.size) := tuck (by have := HZ.out; omega)
 clear hb hc hsz
 go_wp2_with fail
 refine (HPA.out _).mono ?_
 rintro e w2 ⟨hb, v, rfl, s, rfl, hin⟩
 obtain ⟨sa, sc, rfl⟩ := hin.form
 replace HB := tuck (bAfter HB.out hb)
 replace HV := tuck (HV.out.below hb)
 have HIN := tuck (hin.mono (B' := w.heap.size + 1) HSZ.out)
 clear hb hin c0
 generalize (parsed (nfT (k : Int))).isSome = bb at *
 generalize (parsed (nfT (k : Int))).getD zeroT = TT at *
 obtain ⟨z0, k0, k1, k2, kf⟩ := HV.out.facts
 go_wp2_with fail
 refine bodyPost_ret (v := .tuple #[.agg #[.int .i64 TT.kind, .int .i64 TT.num, .slice sa TT.kids.length sc], .bool bb]) (by simp [results, Try.results4, go_sem, *]) rfl (HP.out _ _ _ ?_ ?_)
 ·exact bSet3 HB.out (Nat.le_refl _) _ _ _ _ _ _
 ·exact (((HIN.out.setCell (p := ⟨w.heap.size, 0, none⟩) (Nat.lt_succ_self _) _).setCell (p := ⟨w.heap.size, 1, none⟩) (Nat.lt_succ_self _) _).setCell (p := ⟨w.heap.size, 2, none⟩) (Nat.lt_succ_self _) _).mono (Nat.le_succ _)
set_option maxRecDepth 100000 in
theorem term10_any (s : ByteArray) (hs : s.size ≤ 1000) (n : Int) (v : Value) (w : World) : Calls Try.prog 12 #[.agg #[.string s, .int .i64 n, v]] w (fun e w' => Below w.heap.size w w' ∧ ∃ u, e = .returned (.tuple #[u, .bool (parsed s).isSome]) ∧ Made w.heap.size ((parsed s).getD zeroT) u w') := by
 have HPI : Hid (∀ W, Calls Try.prog 27 #[.string s] W (fun e w' => Below W.heap.size W w' ∧ ∃ v, e = .returned (.tuple #[v, .bool (parsed s).isSome]) ∧ Made W.heap.size ((parsed s).getD zeroT) v w')) := tuck fun W => parseI_any s (by omega) W
 generalize (parsed s).isSome = bb at *
 generalize (parsed s).getD zeroT = TT at *
 have HP : Hid (∀ W u, Below w.heap.size w W → Made w.heap.size TT u W → (fun (e : Ending) (w' : World) => Below w.heap.size w w' ∧ ∃ u, e = .returned (.tuple #[u, .bool bb]) ∧ Made w.heap.size TT u w') (.returned (.tuple #[u, .bool bb])) W) := tuck fun W u h1 h2 => ⟨h1, u, rfl, h2⟩
 generalize (fun (e : Ending) (w' : World) => Below w.heap.size w w' ∧ ∃ u, e = .returned (.tuple #[u, .bool bb]) ∧ Made w.heap.size TT u w') = post at *
 have hz1 : (w.alloc (.cells #[.string s, .int .i64 n, v] 35)).heap.size = w.heap.size + 1 := by simp
 have hz2 : ((w.alloc (.cells #[.string s, .int .i64 n, v] 35)).alloc (.cells #[.int .i64 0, .int .i64 0, .slice none 0 0] 24)).heap.size = w.heap.size + 1 + 1 := by simp
 have FB := (FBox.new w s n v).below (below1 _ (.cells #[.int .i64 0, .int .i64 0, .slice none 0 0] 24))
 have hv0 := VarAt.new (w.alloc (.cells #[.string s, .int .i64 n, v] 35)) 0 0 (.slice none 0 0)
 rw [hz1] at hv0
 have HB := tuck (below2 w (.cells #[.string s, .int .i64 n, v] 35) (.cells #[.int .i64 0, .int .i64 0, .slice none 0 0] 24))
 have HZ2 := tuck hz2
 have HV := tuck hv0
 obtain ⟨z, c0, c1, c2, cf⟩ := FB.facts
 clear hz1 hz2 hv0 FB
 go_enter Try.func12, Try.ntmps12
 go_wp2_with fail
 generalize (w.alloc (.cells #[.string s, .int .i64 n, v] 35)).alloc (.cells #[.int .i64 0, .int .i64 0, .slice none 0 0] 24) = W0 at *
 refine (HPI.out _).mono ?_
 rintro e w1 ⟨hb, u, rfl, ss, F, rfl, hown, hnd, hF⟩
 obtain ⟨sa, sc, rfl⟩ := hown.form
 replace HB := tuck (bAfter HB.out hb)
 replace HV := tuck (HV.out.below hb)
 rw [HZ2.out] at hF
 have HOWN := tuck hown
 have HND := tuck hnd
 have HFF := tuck hF
 clear hb hown hnd hF z c0 c1 c2 cf
 obtain ⟨z0, k0, k1, k2, kf⟩ := HV.out.facts
 go_wp2_with fail
 refine bodyPost_ret (v := .tuple #[.agg #[.int .i64 TT.kind, .int .i64 TT.num, .slice sa TT.kids.length sc], .bool bb]) (by simp [results, Try.results12, go_sem, *]) rfl (HP.out _ _ ?_ ⟨_, F, rfl, ?_, HND.out, fun g hg => ?_⟩)
 ·exact bSet3 HB.out (Nat.le_succ _) _ _ _ _ _ _
 ·exact HOWN.out.set3 (fun h => by have := (HFF.out _ h).1; omega) _ _ _ _ _ _
 ·have := HFF.out g hg
  rw [size_set3]
  omega
set_option maxRecDepth 100000 in
set_option maxHeartbeats 1600000 in
theorem funTermI_any (f : Int) (w : World) : Calls Try.prog 5 #[.int .i64 f] w (fun (e : Ending) (w' : World) => Below w.heap.size w w' ∧ ∃ (a0 : Option Addr) (c0 : Nat) (F0 : List Nat), e = .returned (.tuple #[.agg #[.int .i64 ((parsed (nfT f)).getD zeroT).kind, .int .i64 ((parsed (nfT f)).getD zeroT).num, .slice a0 ((parsed (nfT f)).getD zeroT).kids.length c0], .bool (parsed (nfT f)).isSome]) ∧ SlOwn w' ((parsed (nfT f)).getD zeroT).kids (.slice a0 ((parsed (nfT f)).getD zeroT).kids.length c0) F0 ∧ F0.Nodup ∧ ∀ g ∈ F0, w.heap.size ≤ g ∧ g < w'.heap.size) := by
 have HN : Hid (∀ W, Calls Try.prog 11 #[.int .i64 f] W (NfPost f W)) := tuck fun W => numFun_any f W
 have HT : Hid (∀ W n v, Calls Try.prog 12 #[.agg #[.string (nfT f), .int .i64 n, v]] W (fun e w' => Below W.heap.size W w' ∧ ∃ u, e = .returned (.tuple #[u, .bool (parsed (nfT f)).isSome]) ∧ Made W.heap.size ((parsed (nfT f)).getD zeroT) u w')) := tuck fun W n v => term10_any _ (nfT_size f) n v W
 have HP : Hid (∀ W a0 c0 F0, Below w.heap.size w W → SlOwn W ((parsed (nfT f)).getD zeroT).kids (.slice a0 ((parsed (nfT f)).getD zeroT).kids.length c0) F0 → F0.Nodup → (∀ g ∈ F0, w.heap.size ≤ g ∧ g < W.heap.size) → (fun (e : Ending) (w' : World) => Below w.heap.size w w' ∧ ∃ (a0 : Option Addr) (c0 : Nat) (F0 : List Nat), e = .returned (.tuple #[.agg #[.int .i64 ((parsed (nfT f)).getD zeroT).kind, .int .i64 ((parsed (nfT f)).getD zeroT).num, .slice a0 ((parsed (nfT f)).getD zeroT).kids.length c0], .bool (parsed (nfT f)).isSome]) ∧ SlOwn w' ((parsed (nfT f)).getD zeroT).kids (.slice a0 ((parsed (nfT f)).getD zeroT).kids.length c0) F0 ∧ F0.Nodup ∧ ∀ g ∈ F0, w.heap.size ≤ g ∧ g < w'.heap.size) (.returned (.tuple #[.agg #[.int .i64 ((parsed (nfT f)).getD zeroT).kind, .int .i64 ((parsed (nfT f)).getD zeroT).num, .slice a0 ((parsed (nfT f)).getD zeroT).kids.length c0], .bool (parsed (nfT f)).isSome])) W) := tuck fun W a0 c0 F0 hb hs hn hF => ⟨hb, a0, c0, F0, rfl, hs, hn, hF⟩
 generalize (fun (e : Ending) (w' : World) => Below w.heap.size w w' ∧ ∃ (a0 : Option Addr) (c0 : Nat) (F0 : List Nat), e = .returned (.tuple #[.agg #[.int .i64 ((parsed (nfT f)).getD zeroT).kind, .int .i64 ((parsed (nfT f)).getD zeroT).num, .slice a0 ((parsed (nfT f)).getD zeroT).kids.length c0], .bool (parsed (nfT f)).isSome]) ∧ SlOwn w' ((parsed (nfT f)).getD zeroT).kids (.slice a0 ((parsed (nfT f)).getD zeroT).kids.length c0) F0 ∧ F0.Nodup ∧ ∀ g ∈ F0, w.heap.size ≤ g ∧ g < w'.heap.size) = post at *
 generalize (parsed (nfT f)).isSome = bb at *
 generalize ((parsed (nfT f)).getD zeroT) = TT at *
 have HB := tuck (below1 w (.cells #[.int .i64 0, .int .i64 0, .slice none 0 0] 24))
 have hzW : (w.alloc (.cells #[.int .i64 0, .int .i64 0, .slice none 0 0] 24)).heap.size = w.heap.size + 1 := by simp
 have HZ := tuck hzW
 clear hzW
 have HV := tuck (VarAt.new w 0 0 (.slice none 0 0))
 go_enter Try.func5, Try.ntmps5
 go_wp2_with fail
 generalize w.alloc (.cells #[.int .i64 0, .int .i64 0, .slice none 0 0] 24) = W0 at *
 refine (HN.out _).mono ?_
 rintro e w1 ⟨hb, v, rfl, -⟩
 replace HB := tuck (bAfter HB.out hb)
 replace HV := tuck (HV.out.below hb)
 have hsz := hb.size
 have HSZ : Hid (w.heap.size + 1 ≤ w1.heap.size) := tuck (by have := HZ.out; omega)
 clear hb hsz
 generalize nfA f = A at *
 go_wp2_with fail
 refine (HT.out _ _ _).mono ?_
 rintro e w2 ⟨hb, u, rfl, ss, F, rfl, hown, hnd, hF⟩
 obtain ⟨sa, sc, rfl⟩ := hown.form
 replace HB := tuck (bAfter HB.out hb)
 replace HV := tuck (HV.out.below hb)
 have HOWN := tuck hown
 have HND := tuck hnd
 have HFF := tuck hF
 clear hb hown hnd hF
 obtain ⟨z0, k0, k1, k2, kf⟩ := HV.out.facts
 go_wp2_with fail
 refine bodyPost_ret (v := .tuple #[.agg #[.int .i64 TT.kind, .int .i64 TT.num, .slice sa TT.kids.length sc], .bool bb]) (by simp [results, Try.results5, go_sem, *]) rfl (HP.out _ _ _ F ?_ ?_ HND.out fun g hg => ?_)
 ·exact bSet3 HB.out (Nat.le_refl _) _ _ _ _ _ _
 ·exact HOWN.out.set3 (fun h => by have := (HFF.out _ h).1; have := HSZ.out; omega) _ _ _ _ _ _
 ·have := HFF.out g hg; have := HSZ.out
  rw [size_set3]
  omega
end Go.Proofs.Ytpddjebdncaceaa
