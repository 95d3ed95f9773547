/-
  ImplV.
-/
import Derived.Test.YteeafpnjpcgfaaaGreatB04
import Derived.Deep.RegionHeld3
namespace Go.Proofs.YteeafpnjpcgfaaaGreat
open Go.RowKit
def kT (k : Int) : Nat := if k = 1 then 146 else if k = 2 then 147 else if k = 3 then 150 else if k = 4 then 151 else if k = 5 then 152 else if k = 6 then 153 else if k = 7 then 154 else if k = 8 then 157 else if k = 9 then 160 else if k = 10 then 163 else if k = 11 then 164 else if k = 12 then 165 else if k = 13 then 166 else if k = 14 then 167 else if k = 15 then 168 else if k = 16 then 169 else 0
def kindRes (k : Int) : Value := if 1 ≤ k ∧ k ≤ 16 then .tuple #[.iface (kT k) (.agg #[]), .bool true] else .tuple #[.nilIface, .bool false]
theorem ret_val {a b : Value} (h : a = b) : Ending.returned a = .returned b := by rw [h]
theorem kindOf_any (k n : Int) (s : Value) (w : World) : Calls Tryz.prog 60 #[.agg #[.int .i64 k, .int .i64 n, s]] w fun e w' => e = .returned (kindRes k) ∧ w' = w.alloc (.cells #[.int .i64 k, .int .i64 n, s] 29) := by
 go_enter Tryz.func60, Tryz.ntmps60
 go_wp2
 all_goals (go_ret2; refine ⟨ret_val ?_, rfl⟩)
 all_goals (simp only [beq_iff_eq, beq_eq_false_iff_ne] at *)
 all_goals first | (subst k; rfl) | (unfold kindRes; rw [if_neg (by omega)]; rfl)
structure KindFacts (T : Nat) (most ar : Int) : Prop where
 hm : ∃ f : Nat, (∀ (n : Nat) (w : World), (method (n + 1) T (.agg #[]) "loop.example/depkernel/impl.maxN").run Tryz.prog w = .ok (f, .agg #[]) w) ∧ (∀ (args : Array Value) (w : World), (callFunc f args).run Tryz.prog w = .ok (.enter f args) w) ∧
  ∀ w : World, Calls Tryz.prog f #[.agg #[]] w fun e w' => e = .returned (.int .i64 most) ∧ Below w.heap.size w w'
 ho : ∃ f : Nat, (∀ (n : Nat) (w : World), (method (n + 1) T (.agg #[]) "loop.example/depkernel/impl.operands").run Tryz.prog w = .ok (f, .agg #[]) w) ∧ (∀ (args : Array Value) (w : World), (callFunc f args).run Tryz.prog w = .ok (.enter f args) w) ∧
  ∀ w : World, Calls Tryz.prog f #[.agg #[]] w fun e w' => e = .returned (.int .i64 ar) ∧ Below w.heap.size w w'
theorem most_zero (w : World) : Calls Tryz.prog 173 #[.agg #[]] w fun e w' => e = .returned (.int .i64 0) ∧ Below w.heap.size w w' := by
 go_enter Tryz.func173, Tryz.ntmps173
 go_wp2
 go_ret
 exact ⟨rfl, below1 _ _⟩
theorem most_var (w : World) : Calls Tryz.prog 176 #[.agg #[]] w fun e w' => e = .returned (.int .i64 20) ∧ Below w.heap.size w w' := by
 go_enter Tryz.func176, Tryz.ntmps176
 go_wp2
 go_ret
 exact ⟨rfl, below1 _ _⟩
theorem most_sort (w : World) : Calls Tryz.prog 181 #[.agg #[]] w fun e w' => e = .returned (.int .i64 3) ∧ Below w.heap.size w w' := by
 go_enter Tryz.func181, Tryz.ntmps181
 go_wp2
 go_ret
 exact ⟨rfl, below1 _ _⟩
theorem args_no (w : World) : Calls Tryz.prog 174 #[.agg #[]] w fun e w' => e = .returned (.int .i64 0) ∧ Below w.heap.size w w' := by
 go_enter Tryz.func174, Tryz.ntmps174
 go_wp2
 go_ret
 exact ⟨rfl, below1 _ _⟩
theorem args_one (w : World) : Calls Tryz.prog 210 #[.agg #[]] w fun e w' => e = .returned (.int .i64 1) ∧ Below w.heap.size w w' := by
 go_enter Tryz.func210, Tryz.ntmps210
 go_wp2
 go_ret
 exact ⟨rfl, below1 _ _⟩
theorem args_two (w : World) : Calls Tryz.prog 197 #[.agg #[]] w fun e w' => e = .returned (.int .i64 2) ∧ Below w.heap.size w w' := by
 go_enter Tryz.func197, Tryz.ntmps197
 go_wp2
 go_ret
 exact ⟨rfl, below1 _ _⟩
theorem args_three (w : World) : Calls Tryz.prog 216 #[.agg #[]] w fun e w' => e = .returned (.int .i64 3) ∧ Below w.heap.size w w' := by
 go_enter Tryz.func216, Tryz.ntmps216
 go_wp2
 go_ret
 exact ⟨rfl, below1 _ _⟩
theorem args_four (w : World) : Calls Tryz.prog 213 #[.agg #[]] w fun e w' => e = .returned (.int .i64 4) ∧ Below w.heap.size w w' := by
 go_enter Tryz.func213, Tryz.ntmps213
 go_wp2
 go_ret
 exact ⟨rfl, below1 _ _⟩
theorem facts_var : KindFacts 146 20 0 :=
 ⟨⟨176, fun _ _ => by kernel_rfl, fun _ _ => by kernel_rfl, most_var⟩, ⟨174, fun _ _ => by kernel_rfl, fun _ _ => by kernel_rfl, args_no⟩⟩
theorem facts_sort : KindFacts 147 3 0 :=
 ⟨⟨181, fun _ _ => by kernel_rfl, fun _ _ => by kernel_rfl, most_sort⟩, ⟨174, fun _ _ => by kernel_rfl, fun _ _ => by kernel_rfl, args_no⟩⟩
theorem facts_pi : KindFacts 150 0 2 :=
 ⟨⟨173, fun _ _ => by kernel_rfl, fun _ _ => by kernel_rfl, most_zero⟩, ⟨197, fun _ _ => by kernel_rfl, fun _ _ => by kernel_rfl, args_two⟩⟩
theorem facts_lam : KindFacts 151 0 2 :=
 ⟨⟨173, fun _ _ => by kernel_rfl, fun _ _ => by kernel_rfl, most_zero⟩, ⟨197, fun _ _ => by kernel_rfl, fun _ _ => by kernel_rfl, args_two⟩⟩
theorem facts_app : KindFacts 152 0 2 :=
 ⟨⟨173, fun _ _ => by kernel_rfl, fun _ _ => by kernel_rfl, most_zero⟩, ⟨197, fun _ _ => by kernel_rfl, fun _ _ => by kernel_rfl, args_two⟩⟩
theorem facts_nat : KindFacts 153 0 0 :=
 ⟨⟨173, fun _ _ => by kernel_rfl, fun _ _ => by kernel_rfl, most_zero⟩, ⟨174, fun _ _ => by kernel_rfl, fun _ _ => by kernel_rfl, args_no⟩⟩
theorem facts_zero : KindFacts 154 0 0 :=
 ⟨⟨173, fun _ _ => by kernel_rfl, fun _ _ => by kernel_rfl, most_zero⟩, ⟨174, fun _ _ => by kernel_rfl, fun _ _ => by kernel_rfl, args_no⟩⟩
theorem facts_succ : KindFacts 157 0 1 :=
 ⟨⟨173, fun _ _ => by kernel_rfl, fun _ _ => by kernel_rfl, most_zero⟩, ⟨210, fun _ _ => by kernel_rfl, fun _ _ => by kernel_rfl, args_one⟩⟩
theorem facts_elim : KindFacts 160 0 4 :=
 ⟨⟨173, fun _ _ => by kernel_rfl, fun _ _ => by kernel_rfl, most_zero⟩, ⟨213, fun _ _ => by kernel_rfl, fun _ _ => by kernel_rfl, args_four⟩⟩
theorem facts_id : KindFacts 163 0 3 :=
 ⟨⟨173, fun _ _ => by kernel_rfl, fun _ _ => by kernel_rfl, most_zero⟩, ⟨216, fun _ _ => by kernel_rfl, fun _ _ => by kernel_rfl, args_three⟩⟩
theorem facts_refl : KindFacts 164 0 1 :=
 ⟨⟨173, fun _ _ => by kernel_rfl, fun _ _ => by kernel_rfl, most_zero⟩, ⟨210, fun _ _ => by kernel_rfl, fun _ _ => by kernel_rfl, args_one⟩⟩
theorem facts_move : KindFacts 165 0 3 :=
 ⟨⟨173, fun _ _ => by kernel_rfl, fun _ _ => by kernel_rfl, most_zero⟩, ⟨216, fun _ _ => by kernel_rfl, fun _ _ => by kernel_rfl, args_three⟩⟩
theorem facts_sigma : KindFacts 166 0 2 :=
 ⟨⟨173, fun _ _ => by kernel_rfl, fun _ _ => by kernel_rfl, most_zero⟩, ⟨197, fun _ _ => by kernel_rfl, fun _ _ => by kernel_rfl, args_two⟩⟩
theorem facts_pair : KindFacts 167 0 3 :=
 ⟨⟨173, fun _ _ => by kernel_rfl, fun _ _ => by kernel_rfl, most_zero⟩, ⟨216, fun _ _ => by kernel_rfl, fun _ _ => by kernel_rfl, args_three⟩⟩
theorem facts_fst : KindFacts 168 0 1 :=
 ⟨⟨173, fun _ _ => by kernel_rfl, fun _ _ => by kernel_rfl, most_zero⟩, ⟨210, fun _ _ => by kernel_rfl, fun _ _ => by kernel_rfl, args_one⟩⟩
theorem facts_snd : KindFacts 169 0 1 :=
 ⟨⟨173, fun _ _ => by kernel_rfl, fun _ _ => by kernel_rfl, most_zero⟩, ⟨210, fun _ _ => by kernel_rfl, fun _ _ => by kernel_rfl, args_one⟩⟩
theorem facts_any {k : Int} (h : 1 ≤ k ∧ k ≤ 16) : KindFacts (kT k) (mostN k) (arity k) := by
 have hk : k = 1 ∨ k = 2 ∨ k = 3 ∨ k = 4 ∨ k = 5 ∨ k = 6 ∨ k = 7 ∨ k = 8 ∨ k = 9 ∨ k = 10 ∨ k = 11 ∨ k = 12 ∨ k = 13 ∨ k = 14 ∨ k = 15 ∨ k = 16 := by omega
 rcases hk with rfl | rfl | rfl | rfl | rfl | rfl | rfl | rfl | rfl | rfl | rfl | rfl | rfl | rfl | rfl | rfl
 ·exact facts_var
 ·exact facts_sort
 ·exact facts_pi
 ·exact facts_lam
 ·exact facts_app
 ·exact facts_nat
 ·exact facts_zero
 ·exact facts_succ
 ·exact facts_elim
 ·exact facts_id
 ·exact facts_refl
 ·exact facts_move
 ·exact facts_sigma
 ·exact facts_pair
 ·exact facts_fst
 ·exact facts_snd
theorem arity_unknown {k : Int} (h : ¬ (1 ≤ k ∧ k ≤ 16)) : arity k = -1 := by
 unfold arity
 rw [if_neg (by omega), if_neg (by omega), if_neg (by omega), if_neg (by omega), if_neg (by omega)]
theorem held2 {w w1 w' : World} {n : Int} {a : Option Addr} {len cap : Nat} (h : Below w.heap.size w w1 ∧ w.heap.size < w1.heap.size ∧ w1.cell? ⟨w.heap.size, 1, none⟩ = some (.int .i64 n) ∧ w1.cell? ⟨w.heap.size, 2, none⟩ = some (.slice a len cap)) (hb : Below w1.heap.size w1 w') :
  Below w.heap.size w w' ∧ w.heap.size < w'.heap.size ∧ w'.cell? ⟨w.heap.size, 1, none⟩ = some (.int .i64 n) ∧ w'.cell? ⟨w.heap.size, 2, none⟩ = some (.slice a len cap) :=
 ⟨bAfter h.1 hb, Nat.lt_of_lt_of_le h.2.1 hb.size, (hb.cell (p := ⟨w.heap.size, 1, none⟩) h.2.1).trans h.2.2.1, (hb.cell (p := ⟨w.heap.size, 2, none⟩) h.2.1).trans h.2.2.2⟩
theorem held_end {w w' : World} {q : Prop} (h : Below w.heap.size w w' ∧ q) : Below w.heap.size w w' := h.1
set_option maxRecDepth 100000 in
theorem root_any (k n : Int) (a : Option Addr) (len cap : Nat) (w : World) :
  Calls Tryz.prog 94 #[.agg #[.int .i64 k, .int .i64 n, .slice a len cap]] w (BoolPost w (tr (RootOk k n len))) := by
 have HK := tuck (kindOf_any k n (.slice a len cap))
 by_cases hk : 1 ≤ k ∧ k ≤ 16
 ·have e1 : kindRes k = .tuple #[.iface (kT k) (.agg #[]), .bool true] := by unfold kindRes; rw [if_pos hk]
  rw [e1] at HK
  obtain ⟨⟨fm, hm1, hm2, hm3⟩, ⟨fo, ho1, ho2, ho3⟩⟩ := facts_any hk
  have HM := tuck hm3
  have HO := tuck ho3
  have HR : Hid (RootOk k n len ↔ arity k = len ∧ 0 ≤ n ∧ n ≤ mostN k) := Iff.rfl
  clear hk e1 hm3 ho3
  generalize kT k = T at *
  generalize RootOk k n len = R at *
  generalize mostN k = M at *
  generalize arity k = A at *
  by_cases h1 : 0 ≤ n
  ·have g1 : decide (0 ≤ n) = true := by simpa using h1
   by_cases h2 : n ≤ M
   ·have g2 : decide (n ≤ M) = true := by simpa using h2
    have HR' : Hid (tr R = ((len : Int) == A)) := by
     show _ = _
     rw [Bool.eq_iff_iff, tr_iff, HR.out, beq_iff_eq]
     exact ⟨fun h => h.1.symm, fun h => ⟨h.symm, h1, h2⟩⟩
    generalize tr R = r at *
    clear h1 h2 HR
    go_enter Tryz.func94, Tryz.ntmps94
    go_wp2_with (go_at_call 60; refine (HK.out _).mono ?_; rintro e w1 ⟨rfl, rfl⟩)
    have b0 : Below w.heap.size w ((w.alloc (.cells #[.int .i64 k, .int .i64 n, .slice a len cap] 29)).alloc (.cells #[.int .i64 k, .int .i64 n, .slice a len cap] 29)) := below2 _ _ _
    have z0 : w.heap.size < ((w.alloc (.cells #[.int .i64 k, .int .i64 n, .slice a len cap] 29)).alloc (.cells #[.int .i64 k, .int .i64 n, .slice a len cap] 29)).heap.size := by simp; omega
    have c1 : ((w.alloc (.cells #[.int .i64 k, .int .i64 n, .slice a len cap] 29)).alloc (.cells #[.int .i64 k, .int .i64 n, .slice a len cap] 29)).cell? ⟨w.heap.size, 1, none⟩ = some (.int .i64 n) := by go_simp
    have c2 : ((w.alloc (.cells #[.int .i64 k, .int .i64 n, .slice a len cap] 29)).alloc (.cells #[.int .i64 k, .int .i64 n, .slice a len cap] 29)).cell? ⟨w.heap.size, 2, none⟩ = some (.slice a len cap) := by go_simp
    generalize ((w.alloc (.cells #[.int .i64 k, .int .i64 n, .slice a len cap] 29)).alloc (.cells #[.int .i64 k, .int .i64 n, .slice a len cap] 29)) = W0 at *
    go_region_held3 (fun w' => Below w.heap.size w w' ∧ w.heap.size < w'.heap.size ∧ w'.cell? ⟨w.heap.size, 1, none⟩ = some (.int .i64 n) ∧ w'.cell? ⟨w.heap.size, 2, none⟩ = some (.slice a len cap)) (first | exact ⟨b0.drew, z0, c1, c2⟩ | go_keep | exact held2 (by assumption) hb) (first | ((with_reducible refine (HM.out _).mono ?_); rintro e w' ⟨rfl, hb⟩) | ((with_reducible refine (HO.out _).mono ?_); rintro e w' ⟨rfl, hb⟩))
    go_wp2_with fail
    go_ret
    exact ⟨ret_bool HR'.out.symm, held_end (by assumption)⟩
   ·have g2 : decide (n ≤ M) = false := by simpa using h2
    have HR' : Hid (tr R = false) := tr_not fun h => h2 (HR.out.1 h).2.2
    generalize tr R = r at *
    clear h1 h2 HR
    go_enter Tryz.func94, Tryz.ntmps94
    go_wp2_with (go_at_call 60; refine (HK.out _).mono ?_; rintro e w1 ⟨rfl, rfl⟩)
    have b0 : Below w.heap.size w ((w.alloc (.cells #[.int .i64 k, .int .i64 n, .slice a len cap] 29)).alloc (.cells #[.int .i64 k, .int .i64 n, .slice a len cap] 29)) := below2 _ _ _
    have z0 : w.heap.size < ((w.alloc (.cells #[.int .i64 k, .int .i64 n, .slice a len cap] 29)).alloc (.cells #[.int .i64 k, .int .i64 n, .slice a len cap] 29)).heap.size := by simp; omega
    have c1 : ((w.alloc (.cells #[.int .i64 k, .int .i64 n, .slice a len cap] 29)).alloc (.cells #[.int .i64 k, .int .i64 n, .slice a len cap] 29)).cell? ⟨w.heap.size, 1, none⟩ = some (.int .i64 n) := by go_simp
    have c2 : ((w.alloc (.cells #[.int .i64 k, .int .i64 n, .slice a len cap] 29)).alloc (.cells #[.int .i64 k, .int .i64 n, .slice a len cap] 29)).cell? ⟨w.heap.size, 2, none⟩ = some (.slice a len cap) := by go_simp
    generalize ((w.alloc (.cells #[.int .i64 k, .int .i64 n, .slice a len cap] 29)).alloc (.cells #[.int .i64 k, .int .i64 n, .slice a len cap] 29)) = W0 at *
    refine wp_region_noPanic ?_
    refine wp_region_held_drew (S := (fun w' => Below w.heap.size w w' ∧ w.heap.size < w'.heap.size ∧ w'.cell? ⟨w.heap.size, 1, none⟩ = some (.int .i64 n) ∧ w'.cell? ⟨w.heap.size, 2, none⟩ = some (.slice a len cap))) (by kernel_rfl) ⟨b0.drew, z0, c1, c2⟩ (fun hHeld => ?_)
    refine wpAnyH_take (i := 0) (oi := { dst := some 10, op := _, type := _, pos := _, after := _, guard := _ }) (v := ?v0) rfl (by kernel_rfl) (by kernel_rfl) (by kernel_rfl) (fun _ _ _ h => h) (Or.inl ⟨by rfl, ?y0⟩) (by assumption) ?r0
    case y0 => (intro w hSw; (try dsimp only at hSw); go_simp; try (with_reducible rfl))
    simp only [Act.put, List.setIfInBounds_toArray, List.set_cons_zero, List.set_cons_succ]
    refine wpAnyH_take (i := 1) (oi := { dst := some 11, op := _, type := _, pos := _, after := _, guard := _ }) (v := ?v1) rfl (by kernel_rfl) (by kernel_rfl) (by kernel_rfl) (fun _ _ _ h => h) (Or.inl ⟨by rfl, ?y1⟩) (by assumption) ?r1
    case y1 => (intro w hSw; (try dsimp only at hSw); go_simp; try (with_reducible rfl))
    simp only [Act.put, List.setIfInBounds_toArray, List.set_cons_zero, List.set_cons_succ]
    refine wpAnyH_take (i := 2) (oi := { dst := some 12, op := _, type := _, pos := _, after := _, guard := _ }) (v := ?v2) rfl (by kernel_rfl) (by kernel_rfl) (by kernel_rfl) (fun _ _ _ h => h) (Or.inl ⟨by rfl, ?y2⟩) (by assumption) ?r2
    case y2 => (intro w hSw; (try dsimp only at hSw); go_simp; try (with_reducible rfl))
    simp only [Act.put, List.setIfInBounds_toArray, List.set_cons_zero, List.set_cons_succ]
    refine wpAnyH_take (i := 3) (oi := { dst := some 13, op := _, type := _, pos := _, after := _, guard := _ }) (v := ?v3) rfl (by kernel_rfl) (by kernel_rfl) (by kernel_rfl) (fun _ _ _ h => h) (Or.inl ⟨by rfl, ?y3⟩) (by assumption) ?r3
    case y3 => (intro w hSw; (try dsimp only at hSw); go_simp; try (with_reducible rfl))
    simp only [Act.put, List.setIfInBounds_toArray, List.set_cons_zero, List.set_cons_succ]
    refine wpAnyH_take (i := 4) (oi := { dst := some 14, op := _, type := _, pos := _, after := _, guard := _ }) (v := ?v4) rfl (by kernel_rfl) (by kernel_rfl) (by kernel_rfl) (fun _ _ _ h => h) (Or.inl ⟨by rfl, ?y4⟩) (by assumption) ?r4
    case y4 => (intro w hSw; (try dsimp only at hSw); go_simp; try (with_reducible rfl))
    simp only [Act.put, List.setIfInBounds_toArray, List.set_cons_zero, List.set_cons_succ]
    refine wpAnyH_take (i := 5) (oi := { dst := some 15, op := _, type := _, pos := _, after := _, guard := _ }) (v := ?v5) rfl (by kernel_rfl) (by kernel_rfl) (by kernel_rfl) (fun _ _ _ h => h) (Or.inl ⟨by rfl, ?y5⟩) (by assumption) ?r5
    case y5 => (intro w hSw; (try dsimp only at hSw); go_simp; try (with_reducible rfl))
    simp only [Act.put, List.setIfInBounds_toArray, List.set_cons_zero, List.set_cons_succ]
    refine wpAnyH_take (i := 6) (oi := { dst := some 16, op := _, type := _, pos := _, after := _, guard := _ }) (v := ?v6) rfl (by kernel_rfl) (by kernel_rfl) (by kernel_rfl) (fun _ _ _ h => h) (Or.inl ⟨by rfl, ?y6⟩) (by assumption) ?r6
    case y6 => (intro w hSw; (try dsimp only at hSw); go_simp; try (with_reducible rfl))
    simp only [Act.put, List.setIfInBounds_toArray, List.set_cons_zero, List.set_cons_succ]
    refine wpAnyH_take (i := 7) (oi := { dst := some 17, op := _, type := _, pos := _, after := _, guard := _ }) (v := ?v7) rfl (by kernel_rfl) (by kernel_rfl) (by kernel_rfl) (fun _ _ _ h => h) (Or.inl ⟨by rfl, ?y7⟩) (by assumption) ?r7
    case y7 => (intro w hSw; (try dsimp only at hSw); go_simp; try (with_reducible rfl))
    simp only [Act.put, List.setIfInBounds_toArray, List.set_cons_zero, List.set_cons_succ]
    refine wpAnyH_take (i := 8) (oi := { dst := some 18, op := _, type := _, pos := _, after := _, guard := _ }) (v := ?v8) rfl (by kernel_rfl) (by kernel_rfl) (by kernel_rfl) (fun _ _ _ h => h) (Or.inl ⟨by rfl, ?y8⟩) (by assumption) ?r8
    case y8 => (intro w hSw; (try dsimp only at hSw); go_simp; try (with_reducible rfl))
    simp only [Act.put, List.setIfInBounds_toArray, List.set_cons_zero, List.set_cons_succ]
    refine wpAnyH_take (i := 9) (oi := { dst := some 19, op := _, type := _, pos := _, after := _, guard := _ }) (v := ?v9) rfl (by kernel_rfl) (by kernel_rfl) (by kernel_rfl) (fun _ _ _ h => h) (Or.inl ⟨by rfl, ?y9⟩) (by assumption) ?r9
    case y9 => (intro w hSw; (try dsimp only at hSw); go_simp; try (with_reducible rfl))
    simp only [Act.put, List.setIfInBounds_toArray, List.set_cons_zero, List.set_cons_succ]
    refine wpAnyH_ready (rs := [10]) (by kernel_rfl) (by simp) ?_
    refine AllReadyH.cons (o := { dst := some 20, op := _, type := _, pos := _, after := _, guard := _ }) rfl (fun K hK => ?_) AllReadyH.nil
    go_simp
    (refine (HM.out _).mono ?_; rintro e w' ⟨rfl, hb⟩)
    refine hK.out _ _ (held2 (by assumption) hb) (fun hHeld10 => ?_)
    clear hK K
    refine wpAnyH_take (i := 11) (oi := { dst := some 21, op := _, type := _, pos := _, after := _, guard := _ }) (v := ?v11) rfl (by kernel_rfl) (by kernel_rfl) (by kernel_rfl) (fun _ _ _ h => h) (Or.inl ⟨by rfl, ?y11⟩) (by assumption) ?r11
    case y11 => (intro w hSw; (try dsimp only at hSw); go_simp; try (with_reducible rfl))
    simp only [Act.put, List.setIfInBounds_toArray, List.set_cons_zero, List.set_cons_succ]
    refine wpAnyH_take (i := 12) (oi := { dst := some 22, op := _, type := _, pos := _, after := _, guard := _ }) (v := ?v12) rfl (by kernel_rfl) (by kernel_rfl) (by kernel_rfl) (fun _ _ _ h => h) (Or.inl ⟨by rfl, ?y12⟩) (by assumption) ?r12
    case y12 => (intro w hSw; (try dsimp only at hSw); go_simp; try (with_reducible rfl))
    simp only [Act.put, List.setIfInBounds_toArray, List.set_cons_zero, List.set_cons_succ]
    refine wpAnyH_take (i := 13) (oi := { dst := some 23, op := _, type := _, pos := _, after := _, guard := _ }) (v := ?v13) rfl (by kernel_rfl) (by kernel_rfl) (by kernel_rfl) (fun _ _ _ h => h) (Or.inl ⟨by rfl, ?y13⟩) (by assumption) ?r13
    case y13 => (intro w hSw; (try dsimp only at hSw); go_simp; try (with_reducible rfl))
    simp only [Act.put, List.setIfInBounds_toArray, List.set_cons_zero, List.set_cons_succ]
    refine wpAnyH_take (i := 14) (oi := { dst := some 24, op := _, type := _, pos := _, after := _, guard := _ }) (v := undef) rfl (by kernel_rfl) (by kernel_rfl) (by kernel_rfl) (fun _ _ _ h => h) (Or.inr ⟨by rfl, rfl⟩) (by assumption) ?_
    simp only [Act.put, List.setIfInBounds_toArray, List.set_cons_zero, List.set_cons_succ]
    refine wpAnyH_take (i := 15) (oi := { dst := some 25, op := _, type := _, pos := _, after := _, guard := _ }) (v := undef) rfl (by kernel_rfl) (by kernel_rfl) (by kernel_rfl) (fun _ _ _ h => h) (Or.inr ⟨by rfl, rfl⟩) (by assumption) ?_
    simp only [Act.put, List.setIfInBounds_toArray, List.set_cons_zero, List.set_cons_succ]
    refine wpAnyH_take (i := 16) (oi := { dst := some 26, op := _, type := _, pos := _, after := _, guard := _ }) (v := undef) rfl (by kernel_rfl) (by kernel_rfl) (by kernel_rfl) (fun _ _ _ h => h) (Or.inr ⟨by rfl, rfl⟩) (by assumption) ?_
    simp only [Act.put, List.setIfInBounds_toArray, List.set_cons_zero, List.set_cons_succ]
    refine wpAnyH_take (i := 17) (oi := { dst := some 27, op := _, type := _, pos := _, after := _, guard := _ }) (v := undef) rfl (by kernel_rfl) (by kernel_rfl) (by kernel_rfl) (fun _ _ _ h => h) (Or.inr ⟨by rfl, rfl⟩) (by assumption) ?_
    simp only [Act.put, List.setIfInBounds_toArray, List.set_cons_zero, List.set_cons_succ]
    refine wpAnyH_take (i := 18) (oi := { dst := some 28, op := _, type := _, pos := _, after := _, guard := _ }) (v := undef) rfl (by kernel_rfl) (by kernel_rfl) (by kernel_rfl) (fun _ _ _ h => h) (Or.inr ⟨by rfl, rfl⟩) (by assumption) ?_
    simp only [Act.put, List.setIfInBounds_toArray, List.set_cons_zero, List.set_cons_succ]
    refine wpAnyH_take (i := 19) (oi := { dst := some 29, op := _, type := _, pos := _, after := _, guard := _ }) (v := undef) rfl (by kernel_rfl) (by kernel_rfl) (by kernel_rfl) (fun _ _ _ h => h) (Or.inr ⟨by rfl, rfl⟩) (by assumption) ?_
    simp only [Act.put, List.setIfInBounds_toArray, List.set_cons_zero, List.set_cons_succ]
    refine wpAnyH_take (i := 20) (oi := { dst := some 30, op := _, type := _, pos := _, after := _, guard := _ }) (v := ?v20) rfl (by kernel_rfl) (by kernel_rfl) (by kernel_rfl) (fun _ _ _ h => h) (Or.inl ⟨by rfl, ?y20⟩) (by assumption) ?r20
    case y20 => (intro w hSw; (try dsimp only at hSw); go_simp; try (with_reducible rfl))
    simp only [Act.put, List.setIfInBounds_toArray, List.set_cons_zero, List.set_cons_succ]
    refine wpAnyH_take (i := 21) (oi := { dst := some 2, op := _, type := _, pos := _, after := _, guard := _ }) (v := ?v21) rfl (by kernel_rfl) (by kernel_rfl) (by kernel_rfl) (fun _ _ _ h => h) (Or.inl ⟨by rfl, ?y21⟩) (by assumption) ?r21
    case y21 => (intro w hSw; (try dsimp only at hSw); go_simp; try (with_reducible rfl))
    simp only [Act.put, List.setIfInBounds_toArray, List.set_cons_zero, List.set_cons_succ]
    refine wpAnyH_done (by kernel_rfl) ?_ _
    refine NoPanic.normal ?_
    go_wp2_with fail
    go_ret
    exact ⟨ret_bool HR'.out.symm, held_end (by assumption)⟩
  ·have g1 : decide (0 ≤ n) = false := by simpa using h1
   have HR' : Hid (tr R = false) := tr_not fun h => h1 (HR.out.1 h).2.1
   generalize tr R = r at *
   clear h1 HR
   go_enter Tryz.func94, Tryz.ntmps94
   go_wp2_with (go_at_call 60; refine (HK.out _).mono ?_; rintro e w1 ⟨rfl, rfl⟩)
   have b0 : Below w.heap.size w ((w.alloc (.cells #[.int .i64 k, .int .i64 n, .slice a len cap] 29)).alloc (.cells #[.int .i64 k, .int .i64 n, .slice a len cap] 29)) := below2 _ _ _
   have z0 : w.heap.size < ((w.alloc (.cells #[.int .i64 k, .int .i64 n, .slice a len cap] 29)).alloc (.cells #[.int .i64 k, .int .i64 n, .slice a len cap] 29)).heap.size := by simp; omega
   have c1 : ((w.alloc (.cells #[.int .i64 k, .int .i64 n, .slice a len cap] 29)).alloc (.cells #[.int .i64 k, .int .i64 n, .slice a len cap] 29)).cell? ⟨w.heap.size, 1, none⟩ = some (.int .i64 n) := by go_simp
   have c2 : ((w.alloc (.cells #[.int .i64 k, .int .i64 n, .slice a len cap] 29)).alloc (.cells #[.int .i64 k, .int .i64 n, .slice a len cap] 29)).cell? ⟨w.heap.size, 2, none⟩ = some (.slice a len cap) := by go_simp
   generalize ((w.alloc (.cells #[.int .i64 k, .int .i64 n, .slice a len cap] 29)).alloc (.cells #[.int .i64 k, .int .i64 n, .slice a len cap] 29)) = W0 at *
   go_quiet (fail)
   go_wp2_with fail
   go_ret
   exact ⟨ret_bool HR'.out.symm, bDrewN b0 _⟩
 ·have e1 : kindRes k = .tuple #[.nilIface, .bool false] := by unfold kindRes; rw [if_neg hk]
  rw [e1] at HK
  rw [tr_not (fun h => by have h1 := h.1; rw [arity_unknown hk] at h1; omega)]
  clear hk e1
  go_enter Tryz.func94, Tryz.ntmps94
  go_wp2_with (go_at_call 60; refine (HK.out _).mono ?_; rintro e w1 ⟨rfl, rfl⟩)
  have b0 : Below w.heap.size w ((w.alloc (.cells #[.int .i64 k, .int .i64 n, .slice a len cap] 29)).alloc (.cells #[.int .i64 k, .int .i64 n, .slice a len cap] 29)) := below2 _ _ _
  have z0 : w.heap.size < ((w.alloc (.cells #[.int .i64 k, .int .i64 n, .slice a len cap] 29)).alloc (.cells #[.int .i64 k, .int .i64 n, .slice a len cap] 29)).heap.size := by simp; omega
  have c1 : ((w.alloc (.cells #[.int .i64 k, .int .i64 n, .slice a len cap] 29)).alloc (.cells #[.int .i64 k, .int .i64 n, .slice a len cap] 29)).cell? ⟨w.heap.size, 1, none⟩ = some (.int .i64 n) := by go_simp
  have c2 : ((w.alloc (.cells #[.int .i64 k, .int .i64 n, .slice a len cap] 29)).alloc (.cells #[.int .i64 k, .int .i64 n, .slice a len cap] 29)).cell? ⟨w.heap.size, 2, none⟩ = some (.slice a len cap) := by go_simp
  generalize ((w.alloc (.cells #[.int .i64 k, .int .i64 n, .slice a len cap] 29)).alloc (.cells #[.int .i64 k, .int .i64 n, .slice a len cap] 29)) = W0 at *
  go_quiet (fail)
  go_wp2_with fail
  go_ret
  exact ⟨rfl, bDrewN b0 _⟩
end Go.Proofs.YteeafpnjpcgfaaaGreat
