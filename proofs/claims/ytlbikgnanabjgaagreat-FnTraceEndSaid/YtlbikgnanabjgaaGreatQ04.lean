/-
  ImplV.
-/
import Derived.Test.YtlbikgnanabjgaaGreatQ03
import Derived.Deep.RegionHeld3
namespace Go.Proofs.YtlbikgnanabjgaaGreat
open Go.RowKit
def kT (k : Int) : Nat := if k = 1 then 128 else if k = 2 then 129 else if k = 3 then 132 else if k = 4 then 133 else if k = 5 then 134 else if k = 6 then 135 else if k = 7 then 136 else if k = 8 then 139 else if k = 9 then 142 else if k = 10 then 145 else if k = 11 then 146 else if k = 12 then 147 else if k = 13 then 148 else if k = 14 then 149 else if k = 15 then 150 else if k = 16 then 151 else 0
def kindRes (k : Int) : Value := if 1 ≤ k ∧ k ≤ 16 then .tuple #[.iface (kT k) (.agg #[]), .bool true] else .tuple #[.nilIface, .bool false]
theorem ret_val {a b : Value} (h : a = b) : Ending.returned a = .returned b := by rw [h]
theorem kindOf_any (k n : Int) (s : Value) (w : World) : Calls Tryz.prog 69 #[.agg #[.int .i64 k, .int .i64 n, s]] w fun e w' => e = .returned (kindRes k) ∧ w' = w.alloc (.cells #[.int .i64 k, .int .i64 n, s] 25) := by
 go_enter Tryz.func69, Tryz.ntmps69
 go_wp2
 all_goals (go_ret2; refine ⟨ret_val ?_, rfl⟩)
 all_goals (simp only [beq_iff_eq, beq_eq_false_iff_ne] at *)
 all_goals first | (subst k; rfl) | (unfold kindRes; rw [if_neg (by omega)]; rfl)
structure KindFacts (T : Nat) (most ar : Int) : Prop where
 hm : ∃ f : Nat, (∀ (n : Nat) (w : World), (method (n + 1) T (.agg #[]) "loop.example/depkernel/impl.maxN").run Tryz.prog w = .ok (f, .agg #[]) w) ∧ (∀ (args : Array Value) (w : World), (callFunc f args).run Tryz.prog w = .ok (.enter f args) w) ∧
  ∀ w : World, Calls Tryz.prog f #[.agg #[]] w fun e w' => e = .returned (.int .i64 most) ∧ Below w.heap.size w w'
 ho : ∃ f : Nat, (∀ (n : Nat) (w : World), (method (n + 1) T (.agg #[]) "loop.example/depkernel/impl.operands").run Tryz.prog w = .ok (f, .agg #[]) w) ∧ (∀ (args : Array Value) (w : World), (callFunc f args).run Tryz.prog w = .ok (.enter f args) w) ∧
  ∀ w : World, Calls Tryz.prog f #[.agg #[]] w fun e w' => e = .returned (.int .i64 ar) ∧ Below w.heap.size w w'
theorem most_zero (w : World) : Calls Tryz.prog 120 #[.agg #[]] w fun e w' => e = .returned (.int .i64 0) ∧ Below w.heap.size w w' := by
 go_enter Tryz.func120, Tryz.ntmps120
 go_wp2
 go_ret
 exact ⟨rfl, below1 _ _⟩
theorem most_var (w : World) : Calls Tryz.prog 123 #[.agg #[]] w fun e w' => e = .returned (.int .i64 20) ∧ Below w.heap.size w w' := by
 go_enter Tryz.func123, Tryz.ntmps123
 go_wp2
 go_ret
 exact ⟨rfl, below1 _ _⟩
theorem most_sort (w : World) : Calls Tryz.prog 126 #[.agg #[]] w fun e w' => e = .returned (.int .i64 3) ∧ Below w.heap.size w w' := by
 go_enter Tryz.func126, Tryz.ntmps126
 go_wp2
 go_ret
 exact ⟨rfl, below1 _ _⟩
theorem args_no (w : World) : Calls Tryz.prog 121 #[.agg #[]] w fun e w' => e = .returned (.int .i64 0) ∧ Below w.heap.size w w' := by
 go_enter Tryz.func121, Tryz.ntmps121
 go_wp2
 go_ret
 exact ⟨rfl, below1 _ _⟩
theorem args_one (w : World) : Calls Tryz.prog 139 #[.agg #[]] w fun e w' => e = .returned (.int .i64 1) ∧ Below w.heap.size w w' := by
 go_enter Tryz.func139, Tryz.ntmps139
 go_wp2
 go_ret
 exact ⟨rfl, below1 _ _⟩
theorem args_two (w : World) : Calls Tryz.prog 128 #[.agg #[]] w fun e w' => e = .returned (.int .i64 2) ∧ Below w.heap.size w w' := by
 go_enter Tryz.func128, Tryz.ntmps128
 go_wp2
 go_ret
 exact ⟨rfl, below1 _ _⟩
theorem args_three (w : World) : Calls Tryz.prog 145 #[.agg #[]] w fun e w' => e = .returned (.int .i64 3) ∧ Below w.heap.size w w' := by
 go_enter Tryz.func145, Tryz.ntmps145
 go_wp2
 go_ret
 exact ⟨rfl, below1 _ _⟩
theorem args_four (w : World) : Calls Tryz.prog 142 #[.agg #[]] w fun e w' => e = .returned (.int .i64 4) ∧ Below w.heap.size w w' := by
 go_enter Tryz.func142, Tryz.ntmps142
 go_wp2
 go_ret
 exact ⟨rfl, below1 _ _⟩
theorem facts_var : KindFacts 128 20 0 :=
 ⟨⟨123, fun _ _ => by kernel_rfl, fun _ _ => by kernel_rfl, most_var⟩, ⟨121, fun _ _ => by kernel_rfl, fun _ _ => by kernel_rfl, args_no⟩⟩
theorem facts_sort : KindFacts 129 3 0 :=
 ⟨⟨126, fun _ _ => by kernel_rfl, fun _ _ => by kernel_rfl, most_sort⟩, ⟨121, fun _ _ => by kernel_rfl, fun _ _ => by kernel_rfl, args_no⟩⟩
theorem facts_pi : KindFacts 132 0 2 :=
 ⟨⟨120, fun _ _ => by kernel_rfl, fun _ _ => by kernel_rfl, most_zero⟩, ⟨128, fun _ _ => by kernel_rfl, fun _ _ => by kernel_rfl, args_two⟩⟩
theorem facts_lam : KindFacts 133 0 2 :=
 ⟨⟨120, fun _ _ => by kernel_rfl, fun _ _ => by kernel_rfl, most_zero⟩, ⟨128, fun _ _ => by kernel_rfl, fun _ _ => by kernel_rfl, args_two⟩⟩
theorem facts_app : KindFacts 134 0 2 :=
 ⟨⟨120, fun _ _ => by kernel_rfl, fun _ _ => by kernel_rfl, most_zero⟩, ⟨128, fun _ _ => by kernel_rfl, fun _ _ => by kernel_rfl, args_two⟩⟩
theorem facts_nat : KindFacts 135 0 0 :=
 ⟨⟨120, fun _ _ => by kernel_rfl, fun _ _ => by kernel_rfl, most_zero⟩, ⟨121, fun _ _ => by kernel_rfl, fun _ _ => by kernel_rfl, args_no⟩⟩
theorem facts_zero : KindFacts 136 0 0 :=
 ⟨⟨120, fun _ _ => by kernel_rfl, fun _ _ => by kernel_rfl, most_zero⟩, ⟨121, fun _ _ => by kernel_rfl, fun _ _ => by kernel_rfl, args_no⟩⟩
theorem facts_succ : KindFacts 139 0 1 :=
 ⟨⟨120, fun _ _ => by kernel_rfl, fun _ _ => by kernel_rfl, most_zero⟩, ⟨139, fun _ _ => by kernel_rfl, fun _ _ => by kernel_rfl, args_one⟩⟩
theorem facts_elim : KindFacts 142 0 4 :=
 ⟨⟨120, fun _ _ => by kernel_rfl, fun _ _ => by kernel_rfl, most_zero⟩, ⟨142, fun _ _ => by kernel_rfl, fun _ _ => by kernel_rfl, args_four⟩⟩
theorem facts_id : KindFacts 145 0 3 :=
 ⟨⟨120, fun _ _ => by kernel_rfl, fun _ _ => by kernel_rfl, most_zero⟩, ⟨145, fun _ _ => by kernel_rfl, fun _ _ => by kernel_rfl, args_three⟩⟩
theorem facts_refl : KindFacts 146 0 1 :=
 ⟨⟨120, fun _ _ => by kernel_rfl, fun _ _ => by kernel_rfl, most_zero⟩, ⟨139, fun _ _ => by kernel_rfl, fun _ _ => by kernel_rfl, args_one⟩⟩
theorem facts_move : KindFacts 147 0 3 :=
 ⟨⟨120, fun _ _ => by kernel_rfl, fun _ _ => by kernel_rfl, most_zero⟩, ⟨145, fun _ _ => by kernel_rfl, fun _ _ => by kernel_rfl, args_three⟩⟩
theorem facts_sigma : KindFacts 148 0 2 :=
 ⟨⟨120, fun _ _ => by kernel_rfl, fun _ _ => by kernel_rfl, most_zero⟩, ⟨128, fun _ _ => by kernel_rfl, fun _ _ => by kernel_rfl, args_two⟩⟩
theorem facts_pair : KindFacts 149 0 3 :=
 ⟨⟨120, fun _ _ => by kernel_rfl, fun _ _ => by kernel_rfl, most_zero⟩, ⟨145, fun _ _ => by kernel_rfl, fun _ _ => by kernel_rfl, args_three⟩⟩
theorem facts_fst : KindFacts 150 0 1 :=
 ⟨⟨120, fun _ _ => by kernel_rfl, fun _ _ => by kernel_rfl, most_zero⟩, ⟨139, fun _ _ => by kernel_rfl, fun _ _ => by kernel_rfl, args_one⟩⟩
theorem facts_snd : KindFacts 151 0 1 :=
 ⟨⟨120, fun _ _ => by kernel_rfl, fun _ _ => by kernel_rfl, most_zero⟩, ⟨139, fun _ _ => by kernel_rfl, fun _ _ => by kernel_rfl, args_one⟩⟩
theorem facts_any {k : Int} (h : 1 ≤ k ∧ k ≤ 16) : KindFacts (kT k) (mostN k) (arity k) := by
 have hk : k = 1 ∨ k = 2 ∨ k = 3 ∨ k = 4 ∨ k = 5 ∨ k = 6 ∨ k = 7 ∨ k = 8 ∨ k = 9 ∨ k = 10 ∨ k = 11 ∨ k = 12 ∨ k = 13 ∨ k = 14 ∨ k = 15 ∨ k = 16 := by omega
 rcases hk with rfl | rfl | rfl | rfl | rfl | rfl | rfl | rfl | rfl | rfl | rfl | rfl | rfl | rfl | rfl | rfl
 ·exact facts_var
 ·exact facts_sort
 ·exact facts_pi
 ·exact facts_lam
 ·exact facts_app
 ·exact facts_nat
 ·exact facts_zero
 ·exact facts_succ
 ·exact facts_elim
 ·exact facts_id
 ·exact facts_refl
 ·exact facts_move
 ·exact facts_sigma
 ·exact facts_pair
 ·exact facts_fst
 ·exact facts_snd
theorem arity_unknown {k : Int} (h : ¬ (1 ≤ k ∧ k ≤ 16)) : arity k = -1 := by
 unfold arity
 rw [if_neg (by omega), if_neg (by omega), if_neg (by omega), if_neg (by omega), if_neg (by omega)]
theorem held2 {w w1 w' : World} {n : Int} {a : Option Addr} {len cap : Nat} (h : Below w.heap.size w w1 ∧ w.heap.size < w1.heap.size ∧ w1.cell? ⟨w.heap.size, 1, none⟩ = some (.int .i64 n) ∧ w1.cell? ⟨w.heap.size, 2, none⟩ = some (.slice a len cap)) (hb : Below w1.heap.size w1 w') :
  Below w.heap.size w w' ∧ w.heap.size < w'.heap.size ∧ w'.cell? ⟨w.heap.size, 1, none⟩ = some (.int .i64 n) ∧ w'.cell? ⟨w.heap.size, 2, none⟩ = some (.slice a len cap) :=
 ⟨bAfter h.1 hb, Nat.lt_of_lt_of_le h.2.1 hb.size, (hb.cell (p := ⟨w.heap.size, 1, none⟩) h.2.1).trans h.2.2.1, (hb.cell (p := ⟨w.heap.size, 2, none⟩) h.2.1).trans h.2.2.2⟩
theorem held_end {w w' : World} {q : Prop} (h : Below w.heap.size w w' ∧ q) : Below w.heap.size w w' := h.1
set_option maxRecDepth 100000 in
theorem root_any (k n : Int) (a : Option Addr) (len cap : Nat) (w : World) :
  Calls Tryz.prog 60 #[.agg #[.int .i64 k, .int .i64 n, .slice a len cap]] w (BoolPost w (tr (RootOk k n len))) := by
 have HK := tuck (kindOf_any k n (.slice a len cap))
 by_cases hk : 1 ≤ k ∧ k ≤ 16
 ·have e1 : kindRes k = .tuple #[.iface (kT k) (.agg #[]), .bool true] := by unfold kindRes; rw [if_pos hk]
  rw [e1] at HK
  obtain ⟨⟨fm, hm1, hm2, hm3⟩, ⟨fo, ho1, ho2, ho3⟩⟩ := facts_any hk
  have HM := tuck hm3
  have HO := tuck ho3
  have HR : Hid (RootOk k n len ↔ arity k = len ∧ 0 ≤ n ∧ n ≤ mostN k) := Iff.rfl
  clear hk e1 hm3 ho3
  generalize kT k = T at *
  generalize RootOk k n len = R at *
  generalize mostN k = M at *
  generalize arity k = A at *
  by_cases h1 : 0 ≤ n
  ·have g1 : decide (0 ≤ n) = true := by simpa using h1
   by_cases h2 : n ≤ M
   ·have g2 : decide (n ≤ M) = true := by simpa using h2
    have HR' : Hid (tr R = ((len : Int) == A)) := by
     show _ = _
     rw [Bool.eq_iff_iff, tr_iff, HR.out, beq_iff_eq]
     exact ⟨fun h => h.1.symm, fun h => ⟨h.symm, h1, h2⟩⟩
    generalize tr R = r at *
    clear h1 h2 HR
    go_enter Tryz.func60, Tryz.ntmps60
    go_wp2_with (go_at_call 69; refine (HK.out _).mono ?_; rintro e w1 ⟨rfl, rfl⟩)
    have b0 : Below w.heap.size w ((w.alloc (.cells #[.int .i64 k, .int .i64 n, .slice a len cap] 25)).alloc (.cells #[.int .i64 k, .int .i64 n, .slice a len cap] 25)) := below2 _ _ _
    have z0 : w.heap.size < ((w.alloc (.cells #[.int .i64 k, .int .i64 n, .slice a len cap] 25)).alloc (.cells #[.int .i64 k, .int .i64 n, .slice a len cap] 25)).heap.size := by simp; omega
    have c1 : ((w.alloc (.cells #[.int .i64 k, .int .i64 n, .slice a len cap] 25)).alloc (.cells #[.int .i64 k, .int .i64 n, .slice a len cap] 25)).cell? ⟨w.heap.size, 1, none⟩ = some (.int .i64 n) := by go_simp
    have c2 : ((w.alloc (.cells #[.int .i64 k, .int .i64 n, .slice a len cap] 25)).alloc (.cells #[.int .i64 k, .int .i64 n, .slice a len cap] 25)).cell? ⟨w.heap.size, 2, none⟩ = some (.slice a len cap) := by go_simp
    generalize ((w.alloc (.cells #[.int .i64 k, .int .i64 n, .slice a len cap] 25)).alloc (.cells #[.int .i64 k, .int .i64 n, .slice a len cap] 25)) = W0 at *
    go_region_held3 (fun w' => Below w.heap.size w w' ∧ w.heap.size < w'.heap.size ∧ w'.cell? ⟨w.heap.size, 1, none⟩ = some (.int .i64 n) ∧ w'.cell? ⟨w.heap.size, 2, none⟩ = some (.slice a len cap)) (first | exact ⟨b0.drew, z0, c1, c2⟩ | go_keep | exact held2 (by assumption) hb) (first | ((with_reducible refine (HM.out _).mono ?_); rintro e w' ⟨rfl, hb⟩) | ((with_reducible refine (HO.out _).mono ?_); rintro e w' ⟨rfl, hb⟩))
    go_wp2_with fail
    go_ret
    exact ⟨ret_bool HR'.out.symm, held_end (by assumption)⟩
   ·have g2 : decide (n ≤ M) = false := by simpa using h2
    have HR' : Hid (tr R = false) := tr_not fun h => h2 (HR.out.1 h).2.2
    generalize tr R = r at *
    clear h1 h2 HR
    go_enter Tryz.func60, Tryz.ntmps60
    go_wp2_with (go_at_call 69; refine (HK.out _).mono ?_; rintro e w1 ⟨rfl, rfl⟩)
    have b0 : Below w.heap.size w ((w.alloc (.cells #[.int .i64 k, .int .i64 n, .slice a len cap] 25)).alloc (.cells #[.int .i64 k, .int .i64 n, .slice a len cap] 25)) := below2 _ _ _
    have z0 : w.heap.size < ((w.alloc (.cells #[.int .i64 k, .int .i64 n, .slice a len cap] 25)).alloc (.cells #[.int .i64 k, .int .i64 n, .slice a len cap] 25)).heap.size := by simp; omega
    have c1 : ((w.alloc (.cells #[.int .i64 k, .int .i64 n, .slice a len cap] 25)).alloc (.cells #[.int .i64 k, .int .i64 n, .slice a len cap] 25)).cell? ⟨w.heap.size, 1, none⟩ = some (.int .i64 n) := by go_simp
    have c2 : ((w.alloc (.cells #[.int .i64 k, .int .i64 n, .slice a len cap] 25)).alloc (.cells #[.int .i64 k, .int .i64 n, .slice a len cap] 25)).cell? ⟨w.heap.size, 2, none⟩ = some (.slice a len cap) := by go_simp
    generalize ((w.alloc (.cells #[.int .i64 k, .int .i64 n, .slice a len cap] 25)).alloc (.cells #[.int .i64 k, .int .i64 n, .slice a len cap] 25)) = W0 at *
    refine wp_region_noPanic ?_
    refine wp_region_held_drew (S := (fun w' => Below w.heap.size w w' ∧ w.heap.size < w'.heap.size ∧ w'.cell? ⟨w.heap.size, 1, none⟩ = some (.int .i64 n) ∧ w'.cell? ⟨w.heap.size, 2, none⟩ = some (.slice a len cap))) (by kernel_rfl) ⟨b0.drew, z0, c1, c2⟩ (fun hHeld => ?_)
    refine wpAnyH_take (i := 0) (oi := ⟨some 10, _, _, _, _, _⟩) (v := ?v0) rfl (by kernel_rfl) (by kernel_rfl) (by kernel_rfl) (fun _ _ _ h => h) (Or.inl ⟨by rfl, ?y0⟩) (by assumption) ?r0
    case y0 => (intro w hSw; (try dsimp only at hSw); go_simp; try (with_reducible rfl))
    simp only [pts]
    refine wpAnyH_take (i := 1) (oi := ⟨some 11, _, _, _, _, _⟩) (v := ?v1) rfl (by kernel_rfl) (by kernel_rfl) (by kernel_rfl) (fun _ _ _ h => h) (Or.inl ⟨by rfl, ?y1⟩) (by assumption) ?r1
    case y1 => (intro w hSw; (try dsimp only at hSw); go_simp; try (with_reducible rfl))
    simp only [pts]
    refine wpAnyH_take (i := 2) (oi := ⟨some 12, _, _, _, _, _⟩) (v := ?v2) rfl (by kernel_rfl) (by kernel_rfl) (by kernel_rfl) (fun _ _ _ h => h) (Or.inl ⟨by rfl, ?y2⟩) (by assumption) ?r2
    case y2 => (intro w hSw; (try dsimp only at hSw); go_simp; try (with_reducible rfl))
    simp only [pts]
    refine wpAnyH_take (i := 3) (oi := ⟨some 13, _, _, _, _, _⟩) (v := ?v3) rfl (by kernel_rfl) (by kernel_rfl) (by kernel_rfl) (fun _ _ _ h => h) (Or.inl ⟨by rfl, ?y3⟩) (by assumption) ?r3
    case y3 => (intro w hSw; (try dsimp only at hSw); go_simp; try (with_reducible rfl))
    simp only [pts]
    refine wpAnyH_take (i := 4) (oi := ⟨some 14, _, _, _, _, _⟩) (v := ?v4) rfl (by kernel_rfl) (by kernel_rfl) (by kernel_rfl) (fun _ _ _ h => h) (Or.inl ⟨by rfl, ?y4⟩) (by assumption) ?r4
    case y4 => (intro w hSw; (try dsimp only at hSw); go_simp; try (with_reducible rfl))
    simp only [pts]
    refine wpAnyH_take (i := 5) (oi := ⟨some 15, _, _, _, _, _⟩) (v := ?v5) rfl (by kernel_rfl) (by kernel_rfl) (by kernel_rfl) (fun _ _ _ h => h) (Or.inl ⟨by rfl, ?y5⟩) (by assumption) ?r5
    case y5 => (intro w hSw; (try dsimp only at hSw); go_simp; try (with_reducible rfl))
    simp only [pts]
    refine wpAnyH_take (i := 6) (oi := ⟨some 16, _, _, _, _, _⟩) (v := ?v6) rfl (by kernel_rfl) (by kernel_rfl) (by kernel_rfl) (fun _ _ _ h => h) (Or.inl ⟨by rfl, ?y6⟩) (by assumption) ?r6
    case y6 => (intro w hSw; (try dsimp only at hSw); go_simp; try (with_reducible rfl))
    simp only [pts]
    refine wpAnyH_take (i := 7) (oi := ⟨some 17, _, _, _, _, _⟩) (v := ?v7) rfl (by kernel_rfl) (by kernel_rfl) (by kernel_rfl) (fun _ _ _ h => h) (Or.inl ⟨by rfl, ?y7⟩) (by assumption) ?r7
    case y7 => (intro w hSw; (try dsimp only at hSw); go_simp; try (with_reducible rfl))
    simp only [pts]
    refine wpAnyH_take (i := 8) (oi := ⟨some 18, _, _, _, _, _⟩) (v := ?v8) rfl (by kernel_rfl) (by kernel_rfl) (by kernel_rfl) (fun _ _ _ h => h) (Or.inl ⟨by rfl, ?y8⟩) (by assumption) ?r8
    case y8 => (intro w hSw; (try dsimp only at hSw); go_simp; try (with_reducible rfl))
    simp only [pts]
    refine wpAnyH_take (i := 9) (oi := ⟨some 19, _, _, _, _, _⟩) (v := ?v9) rfl (by kernel_rfl) (by kernel_rfl) (by kernel_rfl) (fun _ _ _ h => h) (Or.inl ⟨by rfl, ?y9⟩) (by assumption) ?r9
    case y9 => (intro w hSw; (try dsimp only at hSw); go_simp; try (with_reducible rfl))
    simp only [pts]
    refine wpAnyH_ready (rs := [10]) (by kernel_rfl) (by simp) ?_
    refine AllReadyH.cons (o := ⟨some 20, _, _, _, _, _⟩) rfl (fun K hK => ?_) AllReadyH.nil
    go_simp
    (refine (HM.out _).mono ?_; rintro e w' ⟨rfl, hb⟩)
    refine hK.out _ _ (held2 (by assumption) hb) (fun hHeld10 => ?_)
    clear hK K
    refine wpAnyH_take (i := 11) (oi := ⟨some 21, _, _, _, _, _⟩) (v := ?v11) rfl (by kernel_rfl) (by kernel_rfl) (by kernel_rfl) (fun _ _ _ h => h) (Or.inl ⟨by rfl, ?y11⟩) (by assumption) ?r11
    case y11 => (intro w hSw; (try dsimp only at hSw); go_simp; try (with_reducible rfl))
    simp only [pts]
    refine wpAnyH_take (i := 12) (oi := ⟨some 22, _, _, _, _, _⟩) (v := ?v12) rfl (by kernel_rfl) (by kernel_rfl) (by kernel_rfl) (fun _ _ _ h => h) (Or.inl ⟨by rfl, ?y12⟩) (by assumption) ?r12
    case y12 => (intro w hSw; (try dsimp only at hSw); go_simp; try (with_reducible rfl))
    simp only [pts]
    refine wpAnyH_take (i := 13) (oi := ⟨some 23, _, _, _, _, _⟩) (v := ?v13) rfl (by kernel_rfl) (by kernel_rfl) (by kernel_rfl) (fun _ _ _ h => h) (Or.inl ⟨by rfl, ?y13⟩) (by assumption) ?r13
    case y13 => (intro w hSw; (try dsimp only at hSw); go_simp; try (with_reducible rfl))
    simp only [pts]
    refine wpAnyH_take (i := 14) (oi := ⟨some 24, _, _, _, _, _⟩) (v := undef) rfl (by kernel_rfl) (by kernel_rfl) (by kernel_rfl) (fun _ _ _ h => h) (Or.inr ⟨by rfl, rfl⟩) (by assumption) ?_
    simp only [pts]
    refine wpAnyH_take (i := 15) (oi := ⟨some 25, _, _, _, _, _⟩) (v := undef) rfl (by kernel_rfl) (by kernel_rfl) (by kernel_rfl) (fun _ _ _ h => h) (Or.inr ⟨by rfl, rfl⟩) (by assumption) ?_
    simp only [pts]
    refine wpAnyH_take (i := 16) (oi := ⟨some 26, _, _, _, _, _⟩) (v := undef) rfl (by kernel_rfl) (by kernel_rfl) (by kernel_rfl) (fun _ _ _ h => h) (Or.inr ⟨by rfl, rfl⟩) (by assumption) ?_
    simp only [pts]
    refine wpAnyH_take (i := 17) (oi := ⟨some 27, _, _, _, _, _⟩) (v := undef) rfl (by kernel_rfl) (by kernel_rfl) (by kernel_rfl) (fun _ _ _ h => h) (Or.inr ⟨by rfl, rfl⟩) (by assumption) ?_
    simp only [pts]
    refine wpAnyH_take (i := 18) (oi := ⟨some 28, _, _, _, _, _⟩) (v := undef) rfl (by kernel_rfl) (by kernel_rfl) (by kernel_rfl) (fun _ _ _ h => h) (Or.inr ⟨by rfl, rfl⟩) (by assumption) ?_
    simp only [pts]
    refine wpAnyH_take (i := 19) (oi := ⟨some 29, _, _, _, _, _⟩) (v := undef) rfl (by kernel_rfl) (by kernel_rfl) (by kernel_rfl) (fun _ _ _ h => h) (Or.inr ⟨by rfl, rfl⟩) (by assumption) ?_
    simp only [pts]
    refine wpAnyH_take (i := 20) (oi := ⟨some 30, _, _, _, _, _⟩) (v := ?v20) rfl (by kernel_rfl) (by kernel_rfl) (by kernel_rfl) (fun _ _ _ h => h) (Or.inl ⟨by rfl, ?y20⟩) (by assumption) ?r20
    case y20 => (intro w hSw; (try dsimp only at hSw); go_simp; try (with_reducible rfl))
    simp only [pts]
    refine wpAnyH_take (i := 21) (oi := ⟨some 2, _, _, _, _, _⟩) (v := ?v21) rfl (by kernel_rfl) (by kernel_rfl) (by kernel_rfl) (fun _ _ _ h => h) (Or.inl ⟨by rfl, ?y21⟩) (by assumption) ?r21
    case y21 => (intro w hSw; (try dsimp only at hSw); go_simp; try (with_reducible rfl))
    simp only [pts]
    refine wpAnyH_done (by kernel_rfl) ?_ _
    refine NoPanic.normal ?_
    go_wp2_with fail
    go_ret
    exact ⟨ret_bool HR'.out.symm, held_end (by assumption)⟩
  ·have g1 : decide (0 ≤ n) = false := by simpa using h1
   have HR' : Hid (tr R = false) := tr_not fun h => h1 (HR.out.1 h).2.1
   generalize tr R = r at *
   clear h1 HR
   go_enter Tryz.func60, Tryz.ntmps60
   go_wp2_with (go_at_call 69; refine (HK.out _).mono ?_; rintro e w1 ⟨rfl, rfl⟩)
   have b0 : Below w.heap.size w ((w.alloc (.cells #[.int .i64 k, .int .i64 n, .slice a len cap] 25)).alloc (.cells #[.int .i64 k, .int .i64 n, .slice a len cap] 25)) := below2 _ _ _
   have z0 : w.heap.size < ((w.alloc (.cells #[.int .i64 k, .int .i64 n, .slice a len cap] 25)).alloc (.cells #[.int .i64 k, .int .i64 n, .slice a len cap] 25)).heap.size := by simp; omega
   have c1 : ((w.alloc (.cells #[.int .i64 k, .int .i64 n, .slice a len cap] 25)).alloc (.cells #[.int .i64 k, .int .i64 n, .slice a len cap] 25)).cell? ⟨w.heap.size, 1, none⟩ = some (.int .i64 n) := by go_simp
   have c2 : ((w.alloc (.cells #[.int .i64 k, .int .i64 n, .slice a len cap] 25)).alloc (.cells #[.int .i64 k, .int .i64 n, .slice a len cap] 25)).cell? ⟨w.heap.size, 2, none⟩ = some (.slice a len cap) := by go_simp
   generalize ((w.alloc (.cells #[.int .i64 k, .int .i64 n, .slice a len cap] 25)).alloc (.cells #[.int .i64 k, .int .i64 n, .slice a len cap] 25)) = W0 at *
   go_quiet (fail)
   go_wp2_with fail
   go_ret
   exact ⟨ret_bool HR'.out.symm, bDrewN b0 _⟩
 ·have e1 : kindRes k = .tuple #[.nilIface, .bool false] := by unfold kindRes; rw [if_neg hk]
  rw [e1] at HK
  rw [tr_not (fun h => by have h1 := h.1; rw [arity_unknown hk] at h1; omega)]
  clear hk e1
  go_enter Tryz.func60, Tryz.ntmps60
  go_wp2_with (go_at_call 69; refine (HK.out _).mono ?_; rintro e w1 ⟨rfl, rfl⟩)
  have b0 : Below w.heap.size w ((w.alloc (.cells #[.int .i64 k, .int .i64 n, .slice a len cap] 25)).alloc (.cells #[.int .i64 k, .int .i64 n, .slice a len cap] 25)) := below2 _ _ _
  have z0 : w.heap.size < ((w.alloc (.cells #[.int .i64 k, .int .i64 n, .slice a len cap] 25)).alloc (.cells #[.int .i64 k, .int .i64 n, .slice a len cap] 25)).heap.size := by simp; omega
  have c1 : ((w.alloc (.cells #[.int .i64 k, .int .i64 n, .slice a len cap] 25)).alloc (.cells #[.int .i64 k, .int .i64 n, .slice a len cap] 25)).cell? ⟨w.heap.size, 1, none⟩ = some (.int .i64 n) := by go_simp
  have c2 : ((w.alloc (.cells #[.int .i64 k, .int .i64 n, .slice a len cap] 25)).alloc (.cells #[.int .i64 k, .int .i64 n, .slice a len cap] 25)).cell? ⟨w.heap.size, 2, none⟩ = some (.slice a len cap) := by go_simp
  generalize ((w.alloc (.cells #[.int .i64 k, .int .i64 n, .slice a len cap] 25)).alloc (.cells #[.int .i64 k, .int .i64 n, .slice a len cap] 25)) = W0 at *
  go_quiet (fail)
  go_wp2_with fail
  go_ret
  exact ⟨rfl, bDrewN b0 _⟩
end Go.Proofs.YtlbikgnanabjgaaGreat
