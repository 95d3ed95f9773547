/-
  The law FnHeadValue: whatever the bytes, a term without a main operand is its own head normal term.
-/
import Derived.Test.YtabbbnddfcbdiaaGreatC34
import Derived.IntWalk
namespace Go.Proofs.YtabbbnddfcbdiaaGreat.fnHeadValue
open Go.ChangeShapes Go.WideShapes Go.ChangeAt Go.RowKit Go.Deep
set_option linter.unusedVariables false
theorem readable_FnHeadValue : ∀ t ∈ (#[22] : Array TypeId).toList, Tryz.prog.readableRec t = true ∧ t < Tryz.prog.types.size := by
 intro t ht
 simp at ht
 subst ht
 exact ⟨by kernel_rfl, of_decide_eq_true (by kernel_rfl)⟩
theorem laid : laidOutB Tryz.prog = true := by kernel_rfl
@[reducible] def tb (X : Tm) (a : Option Addr) (c : Nat) : Obj := .cells #[.int .i64 X.kind, .int .i64 X.num, .slice a X.kids.length c] 25
theorem tB {g : Nat} {T : Tm} {a : Option Addr} {c : Nat} {w w' : World} (h : Hid (TV g T a c w)) (hb : Below w.heap.size w w') : Hid (TV g T a c w') := tuck (h.out.below hb)
theorem hB {w v u : World} (h : Hid (Below w.heap.size w v)) (hb : Below v.heap.size v u) : Hid (Below w.heap.size w u) := tuck (bAfter h.out hb)
set_option maxRecDepth 100000 in
set_option maxHeartbeats 1600000 in
theorem walk (U : Nat → Int) (a : Option Addr) (b o len cap : Nat) (w : World) (hlc : len ≤ cap) (hcm : cap ≤ maxLen) (hby : Bytes U a b o len w) : Calls Tryz.prog 11 #[.slice a len cap] w fun e w' => e = .returned (.bool true) ∧ Below w.heap.size w w' := by
 unfold maxLen at hcm
 by_cases hl : 1048576 < len
 ·have hl' : (1048576 : Int) < (len : Int) := by omega
  clear hby
  go_enter Tryz.func11, Tryz.ntmps11
  go_wp2
  go_ret
  exact ⟨rfl, Below.refl _ _⟩
 have hl' : ¬ (1048576 : Int) < (len : Int) := by omega
 have HD := tuck (dHeadNormal_any w (by omega) hlc hby)
 clear hby
 go_enter Tryz.func11, Tryz.ntmps11
 go_wp2_with fail
 refine HD.out.mono ?_
 rintro e w1 ⟨T, v, x, rfl, ⟨s, rfl, y⟩, hsz, hx0, hx1, z⟩
 obtain ⟨aV, cV, rfl⟩ := y.form
 have V := tuck (TV.new (y.mono (Nat.zero_le _)))
 have B := tuck (bAfter z (below1 w1 (tb T aV cV)))
 have HSZ : Hid (sizes T.kids ≤ 1048576) := tuck (by have := T.size_eq; omega)
 clear y z HD hsz
 go_wp2_with fail
 generalize w1.alloc (tb T aV cV) = U0 at *
 generalize w1.heap.size = gV at *
 obtain ⟨c, hcc⟩ : ∃ c, c = normC false true T x := ⟨_, rfl⟩
 obtain ⟨X, hX⟩ : ∃ X, X = normT false true T x := ⟨_, rfl⟩
 have I : Hid (∀ (w : World) (v : Value), TmIn w 0 T v → Calls Tryz.prog 35 #[v, .int .i64 x] w (SCodePost w c X)) := fun w v h => by
  have h2 := headI_p T x w v h; rwa [← hcc, ← hX] at h2
 have G : Hid (∀ (w : World) (v : Value), TmIn w 0 T v → Calls Tryz.prog 36 #[v, .int .i64 x] w (SCodePost w c X)) := fun w v h => by
  have h2 := headS_p T x w v h; rwa [← hcc, ← hX] at h2
 have F : Hid (∀ (w : World) (v1 v2 : Value), TmIn w 0 X v1 → TmIn w 0 X v2 → Calls Tryz.prog 20 #[v1, v2] w (BoolPost w true)) := by rw [hX]; exact same_n false true T x
 by_cases hk5 : T.kind = 5
 ·have k5 : (T.kind == 5) = true := by rw [beq_iff_eq]; exact hk5
  by_cases hc3 : c = 3
  ·have kc : (c == 3) = true := by rw [beq_iff_eq]; exact hc3
   clear hc3 hk5
   clear hcc hX
   refine (I.out _ _ V.out.tm).mono ?_
   rintro e p ⟨z, m, rfl, n, rfl, y⟩
   obtain ⟨aY, cY, rfl⟩ := y.form
   replace V := tB V z
   replace B := hB B z
   have N := tuck y
   clear z y
   obtain ⟨zp, C, D, E, H⟩ := V.out.facts
   go_wp2_with fail
   clear zp C D E H
   have Y := tuck (TV.new N.out)
   have z := below1 p (tb X aY cY)
   replace V := tB V z
   replace B := hB B z
   clear z N
   generalize p.alloc (tb X aY cY) = i at *
   generalize p.heap.size = d at *
   refine (G.out _ _ V.out.tm).mono ?_
   rintro e q ⟨z, m, rfl, n, rfl, y⟩
   obtain ⟨aZ, cZ, rfl⟩ := y.form
   replace V := tB V z
   replace Y := tB Y z
   replace B := hB B z
   have M := tuck y
   clear z y
   obtain ⟨zp, C, D, E, H⟩ := V.out.facts
   obtain ⟨J, K, L, O, P⟩ := Y.out.facts
   go_wp2_with fail
   clear zp C D E H J K L O P
   have Z := tuck (TV.new M.out)
   have z := below1 q (tb X aZ cZ)
   replace V := tB V z
   replace Y := tB Y z
   replace B := hB B z
   clear z M
   generalize q.alloc (tb X aZ cZ) = j at *
   generalize q.heap.size = l at *
   refine (F.out _ _ _ Y.out.tm Z.out.tm).mono ?_
   rintro e r ⟨rfl, z⟩
   replace V := tB V z
   replace Y := tB Y z
   replace Z := tB Z z
   replace B := hB B z
   clear z
   obtain ⟨zp, C, D, E, H⟩ := V.out.facts
   obtain ⟨J, K, L, O, P⟩ := Y.out.facts
   obtain ⟨Q, R, S, k, g⟩ := Z.out.facts
   go_wp2_with fail
   refine (F.out _ _ _ Y.out.tm Z.out.tm).mono ?_
   rintro e u ⟨rfl, z⟩
   clear zp C D E H J K L O P Q R S k g
   replace V := tB V z
   replace Y := tB Y z
   replace Z := tB Z z
   replace B := hB B z
   clear z
   obtain ⟨zp, C, D, E, H⟩ := V.out.facts
   obtain ⟨J, K, L, O, P⟩ := Y.out.facts
   obtain ⟨Q, R, S, k, g⟩ := Z.out.facts
   go_wp2_with fail
   go_ret
   exact ⟨rfl, B.out⟩
  ·have kc : (c == 3) = false := by rw [beq_eq_false_iff_ne]; exact hc3
   clear hc3 hk5
   clear hcc hX
   refine (I.out _ _ V.out.tm).mono ?_
   rintro e p ⟨z, m, rfl, n, rfl, y⟩
   obtain ⟨aY, cY, rfl⟩ := y.form
   replace V := tB V z
   replace B := hB B z
   have N := tuck y
   clear z y
   obtain ⟨zp, C, D, E, H⟩ := V.out.facts
   go_wp2_with fail
   clear zp C D E H
   have Y := tuck (TV.new N.out)
   have z := below1 p (tb X aY cY)
   replace V := tB V z
   replace B := hB B z
   clear z N
   generalize p.alloc (tb X aY cY) = i at *
   generalize p.heap.size = d at *
   refine (G.out _ _ V.out.tm).mono ?_
   rintro e q ⟨z, m, rfl, n, rfl, y⟩
   obtain ⟨aZ, cZ, rfl⟩ := y.form
   replace V := tB V z
   replace Y := tB Y z
   replace B := hB B z
   have M := tuck y
   clear z y
   obtain ⟨zp, C, D, E, H⟩ := V.out.facts
   obtain ⟨J, K, L, O, P⟩ := Y.out.facts
   go_wp2_with fail
   clear zp C D E H J K L O P
   have Z := tuck (TV.new M.out)
   have z := below1 q (tb X aZ cZ)
   replace V := tB V z
   replace Y := tB Y z
   replace B := hB B z
   clear z M
   generalize q.alloc (tb X aZ cZ) = j at *
   generalize q.heap.size = l at *
   refine (F.out _ _ _ Y.out.tm Z.out.tm).mono ?_
   rintro e r ⟨rfl, z⟩
   replace V := tB V z
   replace Y := tB Y z
   replace Z := tB Z z
   replace B := hB B z
   clear z
   obtain ⟨zp, C, D, E, H⟩ := V.out.facts
   obtain ⟨J, K, L, O, P⟩ := Y.out.facts
   obtain ⟨Q, R, S, k, g⟩ := Z.out.facts
   go_wp2_with fail
   refine (F.out _ _ _ Y.out.tm Z.out.tm).mono ?_
   rintro e u ⟨rfl, z⟩
   clear zp C D E H J K L O P Q R S k g
   replace V := tB V z
   replace Y := tB Y z
   replace Z := tB Z z
   replace B := hB B z
   clear z
   obtain ⟨zp, C, D, E, H⟩ := V.out.facts
   obtain ⟨J, K, L, O, P⟩ := Y.out.facts
   obtain ⟨Q, R, S, k, g⟩ := Z.out.facts
   go_wp2_with fail
   go_ret
   exact ⟨rfl, B.out⟩
 have k5 : (T.kind == 5) = false := by rw [beq_eq_false_iff_ne]; exact hk5
 by_cases hk9 : T.kind = 9
 ·have k9 : (T.kind == 9) = true := by rw [beq_iff_eq]; exact hk9
  by_cases hc3 : c = 3
  ·have kc : (c == 3) = true := by rw [beq_iff_eq]; exact hc3
   clear hc3 hk9
   clear hcc hX
   refine (I.out _ _ V.out.tm).mono ?_
   rintro e p ⟨z, m, rfl, n, rfl, y⟩
   obtain ⟨aY, cY, rfl⟩ := y.form
   replace V := tB V z
   replace B := hB B z
   have N := tuck y
   clear z y
   obtain ⟨zp, C, D, E, H⟩ := V.out.facts
   go_wp2_with fail
   clear zp C D E H
   have Y := tuck (TV.new N.out)
   have z := below1 p (tb X aY cY)
   replace V := tB V z
   replace B := hB B z
   clear z N
   generalize p.alloc (tb X aY cY) = i at *
   generalize p.heap.size = d at *
   refine (G.out _ _ V.out.tm).mono ?_
   rintro e q ⟨z, m, rfl, n, rfl, y⟩
   obtain ⟨aZ, cZ, rfl⟩ := y.form
   replace V := tB V z
   replace Y := tB Y z
   replace B := hB B z
   have M := tuck y
   clear z y
   obtain ⟨zp, C, D, E, H⟩ := V.out.facts
   obtain ⟨J, K, L, O, P⟩ := Y.out.facts
   go_wp2_with fail
   clear zp C D E H J K L O P
   have Z := tuck (TV.new M.out)
   have z := below1 q (tb X aZ cZ)
   replace V := tB V z
   replace Y := tB Y z
   replace B := hB B z
   clear z M
   generalize q.alloc (tb X aZ cZ) = j at *
   generalize q.heap.size = l at *
   refine (F.out _ _ _ Y.out.tm Z.out.tm).mono ?_
   rintro e r ⟨rfl, z⟩
   replace V := tB V z
   replace Y := tB Y z
   replace Z := tB Z z
   replace B := hB B z
   clear z
   obtain ⟨zp, C, D, E, H⟩ := V.out.facts
   obtain ⟨J, K, L, O, P⟩ := Y.out.facts
   obtain ⟨Q, R, S, k, g⟩ := Z.out.facts
   go_wp2_with fail
   refine (F.out _ _ _ Y.out.tm Z.out.tm).mono ?_
   rintro e u ⟨rfl, z⟩
   clear zp C D E H J K L O P Q R S k g
   replace V := tB V z
   replace Y := tB Y z
   replace Z := tB Z z
   replace B := hB B z
   clear z
   obtain ⟨zp, C, D, E, H⟩ := V.out.facts
   obtain ⟨J, K, L, O, P⟩ := Y.out.facts
   obtain ⟨Q, R, S, k, g⟩ := Z.out.facts
   go_wp2_with fail
   go_ret
   exact ⟨rfl, B.out⟩
  ·have kc : (c == 3) = false := by rw [beq_eq_false_iff_ne]; exact hc3
   clear hc3 hk9
   clear hcc hX
   refine (I.out _ _ V.out.tm).mono ?_
   rintro e p ⟨z, m, rfl, n, rfl, y⟩
   obtain ⟨aY, cY, rfl⟩ := y.form
   replace V := tB V z
   replace B := hB B z
   have N := tuck y
   clear z y
   obtain ⟨zp, C, D, E, H⟩ := V.out.facts
   go_wp2_with fail
   clear zp C D E H
   have Y := tuck (TV.new N.out)
   have z := below1 p (tb X aY cY)
   replace V := tB V z
   replace B := hB B z
   clear z N
   generalize p.alloc (tb X aY cY) = i at *
   generalize p.heap.size = d at *
   refine (G.out _ _ V.out.tm).mono ?_
   rintro e q ⟨z, m, rfl, n, rfl, y⟩
   obtain ⟨aZ, cZ, rfl⟩ := y.form
   replace V := tB V z
   replace Y := tB Y z
   replace B := hB B z
   have M := tuck y
   clear z y
   obtain ⟨zp, C, D, E, H⟩ := V.out.facts
   obtain ⟨J, K, L, O, P⟩ := Y.out.facts
   go_wp2_with fail
   clear zp C D E H J K L O P
   have Z := tuck (TV.new M.out)
   have z := below1 q (tb X aZ cZ)
   replace V := tB V z
   replace Y := tB Y z
   replace B := hB B z
   clear z M
   generalize q.alloc (tb X aZ cZ) = j at *
   generalize q.heap.size = l at *
   refine (F.out _ _ _ Y.out.tm Z.out.tm).mono ?_
   rintro e r ⟨rfl, z⟩
   replace V := tB V z
   replace Y := tB Y z
   replace Z := tB Z z
   replace B := hB B z
   clear z
   obtain ⟨zp, C, D, E, H⟩ := V.out.facts
   obtain ⟨J, K, L, O, P⟩ := Y.out.facts
   obtain ⟨Q, R, S, k, g⟩ := Z.out.facts
   go_wp2_with fail
   refine (F.out _ _ _ Y.out.tm Z.out.tm).mono ?_
   rintro e u ⟨rfl, z⟩
   clear zp C D E H J K L O P Q R S k g
   replace V := tB V z
   replace Y := tB Y z
   replace Z := tB Z z
   replace B := hB B z
   clear z
   obtain ⟨zp, C, D, E, H⟩ := V.out.facts
   obtain ⟨J, K, L, O, P⟩ := Y.out.facts
   obtain ⟨Q, R, S, k, g⟩ := Z.out.facts
   go_wp2_with fail
   go_ret
   exact ⟨rfl, B.out⟩
 have k9 : (T.kind == 9) = false := by rw [beq_eq_false_iff_ne]; exact hk9
 by_cases hk12 : T.kind = 12
 ·have k12 : (T.kind == 12) = true := by rw [beq_iff_eq]; exact hk12
  by_cases hc3 : c = 3
  ·have kc : (c == 3) = true := by rw [beq_iff_eq]; exact hc3
   clear hc3 hk12
   clear hcc hX
   refine (I.out _ _ V.out.tm).mono ?_
   rintro e p ⟨z, m, rfl, n, rfl, y⟩
   obtain ⟨aY, cY, rfl⟩ := y.form
   replace V := tB V z
   replace B := hB B z
   have N := tuck y
   clear z y
   obtain ⟨zp, C, D, E, H⟩ := V.out.facts
   go_wp2_with fail
   clear zp C D E H
   have Y := tuck (TV.new N.out)
   have z := below1 p (tb X aY cY)
   replace V := tB V z
   replace B := hB B z
   clear z N
   generalize p.alloc (tb X aY cY) = i at *
   generalize p.heap.size = d at *
   refine (G.out _ _ V.out.tm).mono ?_
   rintro e q ⟨z, m, rfl, n, rfl, y⟩
   obtain ⟨aZ, cZ, rfl⟩ := y.form
   replace V := tB V z
   replace Y := tB Y z
   replace B := hB B z
   have M := tuck y
   clear z y
   obtain ⟨zp, C, D, E, H⟩ := V.out.facts
   obtain ⟨J, K, L, O, P⟩ := Y.out.facts
   go_wp2_with fail
   clear zp C D E H J K L O P
   have Z := tuck (TV.new M.out)
   have z := below1 q (tb X aZ cZ)
   replace V := tB V z
   replace Y := tB Y z
   replace B := hB B z
   clear z M
   generalize q.alloc (tb X aZ cZ) = j at *
   generalize q.heap.size = l at *
   refine (F.out _ _ _ Y.out.tm Z.out.tm).mono ?_
   rintro e r ⟨rfl, z⟩
   replace V := tB V z
   replace Y := tB Y z
   replace Z := tB Z z
   replace B := hB B z
   clear z
   obtain ⟨zp, C, D, E, H⟩ := V.out.facts
   obtain ⟨J, K, L, O, P⟩ := Y.out.facts
   obtain ⟨Q, R, S, k, g⟩ := Z.out.facts
   go_wp2_with fail
   refine (F.out _ _ _ Y.out.tm Z.out.tm).mono ?_
   rintro e u ⟨rfl, z⟩
   clear zp C D E H J K L O P Q R S k g
   replace V := tB V z
   replace Y := tB Y z
   replace Z := tB Z z
   replace B := hB B z
   clear z
   obtain ⟨zp, C, D, E, H⟩ := V.out.facts
   obtain ⟨J, K, L, O, P⟩ := Y.out.facts
   obtain ⟨Q, R, S, k, g⟩ := Z.out.facts
   go_wp2_with fail
   go_ret
   exact ⟨rfl, B.out⟩
  ·have kc : (c == 3) = false := by rw [beq_eq_false_iff_ne]; exact hc3
   clear hc3 hk12
   clear hcc hX
   refine (I.out _ _ V.out.tm).mono ?_
   rintro e p ⟨z, m, rfl, n, rfl, y⟩
   obtain ⟨aY, cY, rfl⟩ := y.form
   replace V := tB V z
   replace B := hB B z
   have N := tuck y
   clear z y
   obtain ⟨zp, C, D, E, H⟩ := V.out.facts
   go_wp2_with fail
   clear zp C D E H
   have Y := tuck (TV.new N.out)
   have z := below1 p (tb X aY cY)
   replace V := tB V z
   replace B := hB B z
   clear z N
   generalize p.alloc (tb X aY cY) = i at *
   generalize p.heap.size = d at *
   refine (G.out _ _ V.out.tm).mono ?_
   rintro e q ⟨z, m, rfl, n, rfl, y⟩
   obtain ⟨aZ, cZ, rfl⟩ := y.form
   replace V := tB V z
   replace Y := tB Y z
   replace B := hB B z
   have M := tuck y
   clear z y
   obtain ⟨zp, C, D, E, H⟩ := V.out.facts
   obtain ⟨J, K, L, O, P⟩ := Y.out.facts
   go_wp2_with fail
   clear zp C D E H J K L O P
   have Z := tuck (TV.new M.out)
   have z := below1 q (tb X aZ cZ)
   replace V := tB V z
   replace Y := tB Y z
   replace B := hB B z
   clear z M
   generalize q.alloc (tb X aZ cZ) = j at *
   generalize q.heap.size = l at *
   refine (F.out _ _ _ Y.out.tm Z.out.tm).mono ?_
   rintro e r ⟨rfl, z⟩
   replace V := tB V z
   replace Y := tB Y z
   replace Z := tB Z z
   replace B := hB B z
   clear z
   obtain ⟨zp, C, D, E, H⟩ := V.out.facts
   obtain ⟨J, K, L, O, P⟩ := Y.out.facts
   obtain ⟨Q, R, S, k, g⟩ := Z.out.facts
   go_wp2_with fail
   refine (F.out _ _ _ Y.out.tm Z.out.tm).mono ?_
   rintro e u ⟨rfl, z⟩
   clear zp C D E H J K L O P Q R S k g
   replace V := tB V z
   replace Y := tB Y z
   replace Z := tB Z z
   replace B := hB B z
   clear z
   obtain ⟨zp, C, D, E, H⟩ := V.out.facts
   obtain ⟨J, K, L, O, P⟩ := Y.out.facts
   obtain ⟨Q, R, S, k, g⟩ := Z.out.facts
   go_wp2_with fail
   go_ret
   exact ⟨rfl, B.out⟩
 have k12 : (T.kind == 12) = false := by rw [beq_eq_false_iff_ne]; exact hk12
 by_cases hk15 : T.kind = 15
 ·have k15 : (T.kind == 15) = true := by rw [beq_iff_eq]; exact hk15
  by_cases hc3 : c = 3
  ·have kc : (c == 3) = true := by rw [beq_iff_eq]; exact hc3
   clear hc3 hk15
   clear hcc hX
   refine (I.out _ _ V.out.tm).mono ?_
   rintro e p ⟨z, m, rfl, n, rfl, y⟩
   obtain ⟨aY, cY, rfl⟩ := y.form
   replace V := tB V z
   replace B := hB B z
   have N := tuck y
   clear z y
   obtain ⟨zp, C, D, E, H⟩ := V.out.facts
   go_wp2_with fail
   clear zp C D E H
   have Y := tuck (TV.new N.out)
   have z := below1 p (tb X aY cY)
   replace V := tB V z
   replace B := hB B z
   clear z N
   generalize p.alloc (tb X aY cY) = i at *
   generalize p.heap.size = d at *
   refine (G.out _ _ V.out.tm).mono ?_
   rintro e q ⟨z, m, rfl, n, rfl, y⟩
   obtain ⟨aZ, cZ, rfl⟩ := y.form
   replace V := tB V z
   replace Y := tB Y z
   replace B := hB B z
   have M := tuck y
   clear z y
   obtain ⟨zp, C, D, E, H⟩ := V.out.facts
   obtain ⟨J, K, L, O, P⟩ := Y.out.facts
   go_wp2_with fail
   clear zp C D E H J K L O P
   have Z := tuck (TV.new M.out)
   have z := below1 q (tb X aZ cZ)
   replace V := tB V z
   replace Y := tB Y z
   replace B := hB B z
   clear z M
   generalize q.alloc (tb X aZ cZ) = j at *
   generalize q.heap.size = l at *
   refine (F.out _ _ _ Y.out.tm Z.out.tm).mono ?_
   rintro e r ⟨rfl, z⟩
   replace V := tB V z
   replace Y := tB Y z
   replace Z := tB Z z
   replace B := hB B z
   clear z
   obtain ⟨zp, C, D, E, H⟩ := V.out.facts
   obtain ⟨J, K, L, O, P⟩ := Y.out.facts
   obtain ⟨Q, R, S, k, g⟩ := Z.out.facts
   go_wp2_with fail
   refine (F.out _ _ _ Y.out.tm Z.out.tm).mono ?_
   rintro e u ⟨rfl, z⟩
   clear zp C D E H J K L O P Q R S k g
   replace V := tB V z
   replace Y := tB Y z
   replace Z := tB Z z
   replace B := hB B z
   clear z
   obtain ⟨zp, C, D, E, H⟩ := V.out.facts
   obtain ⟨J, K, L, O, P⟩ := Y.out.facts
   obtain ⟨Q, R, S, k, g⟩ := Z.out.facts
   go_wp2_with fail
   go_ret
   exact ⟨rfl, B.out⟩
  ·have kc : (c == 3) = false := by rw [beq_eq_false_iff_ne]; exact hc3
   clear hc3 hk15
   clear hcc hX
   refine (I.out _ _ V.out.tm).mono ?_
   rintro e p ⟨z, m, rfl, n, rfl, y⟩
   obtain ⟨aY, cY, rfl⟩ := y.form
   replace V := tB V z
   replace B := hB B z
   have N := tuck y
   clear z y
   obtain ⟨zp, C, D, E, H⟩ := V.out.facts
   go_wp2_with fail
   clear zp C D E H
   have Y := tuck (TV.new N.out)
   have z := below1 p (tb X aY cY)
   replace V := tB V z
   replace B := hB B z
   clear z N
   generalize p.alloc (tb X aY cY) = i at *
   generalize p.heap.size = d at *
   refine (G.out _ _ V.out.tm).mono ?_
   rintro e q ⟨z, m, rfl, n, rfl, y⟩
   obtain ⟨aZ, cZ, rfl⟩ := y.form
   replace V := tB V z
   replace Y := tB Y z
   replace B := hB B z
   have M := tuck y
   clear z y
   obtain ⟨zp, C, D, E, H⟩ := V.out.facts
   obtain ⟨J, K, L, O, P⟩ := Y.out.facts
   go_wp2_with fail
   clear zp C D E H J K L O P
   have Z := tuck (TV.new M.out)
   have z := below1 q (tb X aZ cZ)
   replace V := tB V z
   replace Y := tB Y z
   replace B := hB B z
   clear z M
   generalize q.alloc (tb X aZ cZ) = j at *
   generalize q.heap.size = l at *
   refine (F.out _ _ _ Y.out.tm Z.out.tm).mono ?_
   rintro e r ⟨rfl, z⟩
   replace V := tB V z
   replace Y := tB Y z
   replace Z := tB Z z
   replace B := hB B z
   clear z
   obtain ⟨zp, C, D, E, H⟩ := V.out.facts
   obtain ⟨J, K, L, O, P⟩ := Y.out.facts
   obtain ⟨Q, R, S, k, g⟩ := Z.out.facts
   go_wp2_with fail
   refine (F.out _ _ _ Y.out.tm Z.out.tm).mono ?_
   rintro e u ⟨rfl, z⟩
   clear zp C D E H J K L O P Q R S k g
   replace V := tB V z
   replace Y := tB Y z
   replace Z := tB Z z
   replace B := hB B z
   clear z
   obtain ⟨zp, C, D, E, H⟩ := V.out.facts
   obtain ⟨J, K, L, O, P⟩ := Y.out.facts
   obtain ⟨Q, R, S, k, g⟩ := Z.out.facts
   go_wp2_with fail
   go_ret
   exact ⟨rfl, B.out⟩
 have k15 : (T.kind == 15) = false := by rw [beq_eq_false_iff_ne]; exact hk15
 by_cases hk16 : T.kind = 16
 ·have k16 : (T.kind == 16) = true := by rw [beq_iff_eq]; exact hk16
  by_cases hc3 : c = 3
  ·have kc : (c == 3) = true := by rw [beq_iff_eq]; exact hc3
   clear hc3 hk16
   clear hcc hX
   refine (I.out _ _ V.out.tm).mono ?_
   rintro e p ⟨z, m, rfl, n, rfl, y⟩
   obtain ⟨aY, cY, rfl⟩ := y.form
   replace V := tB V z
   replace B := hB B z
   have N := tuck y
   clear z y
   obtain ⟨zp, C, D, E, H⟩ := V.out.facts
   go_wp2_with fail
   clear zp C D E H
   have Y := tuck (TV.new N.out)
   have z := below1 p (tb X aY cY)
   replace V := tB V z
   replace B := hB B z
   clear z N
   generalize p.alloc (tb X aY cY) = i at *
   generalize p.heap.size = d at *
   refine (G.out _ _ V.out.tm).mono ?_
   rintro e q ⟨z, m, rfl, n, rfl, y⟩
   obtain ⟨aZ, cZ, rfl⟩ := y.form
   replace V := tB V z
   replace Y := tB Y z
   replace B := hB B z
   have M := tuck y
   clear z y
   obtain ⟨zp, C, D, E, H⟩ := V.out.facts
   obtain ⟨J, K, L, O, P⟩ := Y.out.facts
   go_wp2_with fail
   clear zp C D E H J K L O P
   have Z := tuck (TV.new M.out)
   have z := below1 q (tb X aZ cZ)
   replace V := tB V z
   replace Y := tB Y z
   replace B := hB B z
   clear z M
   generalize q.alloc (tb X aZ cZ) = j at *
   generalize q.heap.size = l at *
   refine (F.out _ _ _ Y.out.tm Z.out.tm).mono ?_
   rintro e r ⟨rfl, z⟩
   replace V := tB V z
   replace Y := tB Y z
   replace Z := tB Z z
   replace B := hB B z
   clear z
   obtain ⟨zp, C, D, E, H⟩ := V.out.facts
   obtain ⟨J, K, L, O, P⟩ := Y.out.facts
   obtain ⟨Q, R, S, k, g⟩ := Z.out.facts
   go_wp2_with fail
   refine (F.out _ _ _ Y.out.tm Z.out.tm).mono ?_
   rintro e u ⟨rfl, z⟩
   clear zp C D E H J K L O P Q R S k g
   replace V := tB V z
   replace Y := tB Y z
   replace Z := tB Z z
   replace B := hB B z
   clear z
   obtain ⟨zp, C, D, E, H⟩ := V.out.facts
   obtain ⟨J, K, L, O, P⟩ := Y.out.facts
   obtain ⟨Q, R, S, k, g⟩ := Z.out.facts
   go_wp2_with fail
   go_ret
   exact ⟨rfl, B.out⟩
  ·have kc : (c == 3) = false := by rw [beq_eq_false_iff_ne]; exact hc3
   clear hc3 hk16
   clear hcc hX
   refine (I.out _ _ V.out.tm).mono ?_
   rintro e p ⟨z, m, rfl, n, rfl, y⟩
   obtain ⟨aY, cY, rfl⟩ := y.form
   replace V := tB V z
   replace B := hB B z
   have N := tuck y
   clear z y
   obtain ⟨zp, C, D, E, H⟩ := V.out.facts
   go_wp2_with fail
   clear zp C D E H
   have Y := tuck (TV.new N.out)
   have z := below1 p (tb X aY cY)
   replace V := tB V z
   replace B := hB B z
   clear z N
   generalize p.alloc (tb X aY cY) = i at *
   generalize p.heap.size = d at *
   refine (G.out _ _ V.out.tm).mono ?_
   rintro e q ⟨z, m, rfl, n, rfl, y⟩
   obtain ⟨aZ, cZ, rfl⟩ := y.form
   replace V := tB V z
   replace Y := tB Y z
   replace B := hB B z
   have M := tuck y
   clear z y
   obtain ⟨zp, C, D, E, H⟩ := V.out.facts
   obtain ⟨J, K, L, O, P⟩ := Y.out.facts
   go_wp2_with fail
   clear zp C D E H J K L O P
   have Z := tuck (TV.new M.out)
   have z := below1 q (tb X aZ cZ)
   replace V := tB V z
   replace Y := tB Y z
   replace B := hB B z
   clear z M
   generalize q.alloc (tb X aZ cZ) = j at *
   generalize q.heap.size = l at *
   refine (F.out _ _ _ Y.out.tm Z.out.tm).mono ?_
   rintro e r ⟨rfl, z⟩
   replace V := tB V z
   replace Y := tB Y z
   replace Z := tB Z z
   replace B := hB B z
   clear z
   obtain ⟨zp, C, D, E, H⟩ := V.out.facts
   obtain ⟨J, K, L, O, P⟩ := Y.out.facts
   obtain ⟨Q, R, S, k, g⟩ := Z.out.facts
   go_wp2_with fail
   refine (F.out _ _ _ Y.out.tm Z.out.tm).mono ?_
   rintro e u ⟨rfl, z⟩
   clear zp C D E H J K L O P Q R S k g
   replace V := tB V z
   replace Y := tB Y z
   replace Z := tB Z z
   replace B := hB B z
   clear z
   obtain ⟨zp, C, D, E, H⟩ := V.out.facts
   obtain ⟨J, K, L, O, P⟩ := Y.out.facts
   obtain ⟨Q, R, S, k, g⟩ := Z.out.facts
   go_wp2_with fail
   go_ret
   exact ⟨rfl, B.out⟩
 have k16 : (T.kind == 16) = false := by rw [beq_eq_false_iff_ne]; exact hk16
 by_cases hok : NormOk T x
 rotate_left
 ·obtain rfl : c = 3 := hcc.trans (normC_no hok)
  clear hok hk5 hk9 hk12 hk15 hk16
  clear hcc hX
  refine (I.out _ _ V.out.tm).mono ?_
  rintro e p ⟨z, m, rfl, n, rfl, y⟩
  obtain ⟨aY, cY, rfl⟩ := y.form
  replace V := tB V z
  replace B := hB B z
  have N := tuck y
  clear z y
  obtain ⟨zp, C, D, E, H⟩ := V.out.facts
  go_wp2_with fail
  clear zp C D E H
  have Y := tuck (TV.new N.out)
  have z := below1 p (tb X aY cY)
  replace V := tB V z
  replace B := hB B z
  clear z N
  generalize p.alloc (tb X aY cY) = i at *
  generalize p.heap.size = d at *
  refine (G.out _ _ V.out.tm).mono ?_
  rintro e q ⟨z, m, rfl, n, rfl, y⟩
  obtain ⟨aZ, cZ, rfl⟩ := y.form
  replace V := tB V z
  replace Y := tB Y z
  replace B := hB B z
  have M := tuck y
  clear z y
  obtain ⟨zp, C, D, E, H⟩ := V.out.facts
  obtain ⟨J, K, L, O, P⟩ := Y.out.facts
  go_wp2_with fail
  clear zp C D E H J K L O P
  have Z := tuck (TV.new M.out)
  have z := below1 q (tb X aZ cZ)
  replace V := tB V z
  replace Y := tB Y z
  replace B := hB B z
  clear z M
  generalize q.alloc (tb X aZ cZ) = j at *
  generalize q.heap.size = l at *
  refine (F.out _ _ _ Y.out.tm Z.out.tm).mono ?_
  rintro e r ⟨rfl, z⟩
  replace V := tB V z
  replace Y := tB Y z
  replace Z := tB Z z
  replace B := hB B z
  clear z
  obtain ⟨zp, C, D, E, H⟩ := V.out.facts
  obtain ⟨J, K, L, O, P⟩ := Y.out.facts
  obtain ⟨Q, R, S, k, g⟩ := Z.out.facts
  go_wp2_with fail
  refine (F.out _ _ _ Y.out.tm Z.out.tm).mono ?_
  rintro e u ⟨rfl, z⟩
  clear zp C D E H J K L O P Q R S k g
  replace V := tB V z
  replace Y := tB Y z
  replace Z := tB Z z
  replace B := hB B z
  clear z
  obtain ⟨zp, C, D, E, H⟩ := V.out.facts
  obtain ⟨J, K, L, O, P⟩ := Y.out.facts
  obtain ⟨Q, R, S, k, g⟩ := Z.out.facts
  go_wp2_with fail
  go_ret
  exact ⟨rfl, B.out⟩
 have hm : mainIx T.kind = -1 := by unfold mainIx; rw [if_neg (by omega), if_neg (by omega), if_neg (by omega)]
 obtain ⟨h1, h2⟩ := head_value hok.1 hm hok.2.1 hok.2.2
 obtain rfl : c = 0 := hcc.trans h1
 have hXT : X = T := hX.trans h2
 have HTT : Hid (∀ (w : World) (v1 v2 : Value), TmIn w 0 X v1 → TmIn w 0 T v2 → Calls Tryz.prog 20 #[v1, v2] w (BoolPost w true)) := tuck fun w v1 v2 a1 a2 => by rw [hXT] at a1; exact same_v hok.1 w v1 v2 a1 a2
 clear hok hk5 hk9 hk12 hk15 hk16 hm h1 h2 hXT
 clear hcc hX
 refine (I.out _ _ V.out.tm).mono ?_
 rintro e u1 ⟨z, m, rfl, n, rfl, y⟩
 obtain ⟨aY, cY, rfl⟩ := y.form
 replace V := tB V z
 replace B := hB B z
 have N := tuck y
 clear z y
 obtain ⟨zp, C, D, E, H⟩ := V.out.facts
 go_wp2_with fail
 clear zp C D E H
 have Y := tuck (TV.new N.out)
 have z := below1 u1 (tb X aY cY)
 replace V := tB V z
 replace B := hB B z
 clear z N
 generalize u1.alloc (tb X aY cY) = U1 at *
 generalize u1.heap.size = d at *
 refine (G.out _ _ V.out.tm).mono ?_
 rintro e u2 ⟨z, m, rfl, n, rfl, y⟩
 obtain ⟨aZ, cZ, rfl⟩ := y.form
 replace V := tB V z
 replace Y := tB Y z
 replace B := hB B z
 have M := tuck y
 clear z y
 obtain ⟨zp, C, D, E, H⟩ := V.out.facts
 obtain ⟨J, K, L, O, P⟩ := Y.out.facts
 go_wp2_with fail
 clear zp C D E H J K L O P
 have Z := tuck (TV.new M.out)
 have z := below1 u2 (tb X aZ cZ)
 replace V := tB V z
 replace Y := tB Y z
 replace B := hB B z
 clear z M
 generalize u2.alloc (tb X aZ cZ) = U2 at *
 generalize u2.heap.size = l at *
 refine (F.out _ _ _ Y.out.tm Z.out.tm).mono ?_
 rintro e u3 ⟨rfl, z⟩
 replace V := tB V z
 replace Y := tB Y z
 replace Z := tB Z z
 replace B := hB B z
 clear z
 obtain ⟨zp, C, D, E, H⟩ := V.out.facts
 obtain ⟨J, K, L, O, P⟩ := Y.out.facts
 obtain ⟨Q, R, S, k, g⟩ := Z.out.facts
 go_wp2_with fail
 refine (HTT.out _ _ _ Y.out.tm V.out.tm).mono ?_
 rintro e u4 ⟨rfl, z⟩
 clear zp C D E H J K L O P Q R S k g
 replace V := tB V z
 replace Y := tB Y z
 replace Z := tB Z z
 replace B := hB B z
 clear z
 obtain ⟨zp, C, D, E, H⟩ := V.out.facts
 obtain ⟨J, K, L, O, P⟩ := Y.out.facts
 obtain ⟨Q, R, S, k, g⟩ := Z.out.facts
 go_wp2_with fail
 go_ret
 exact ⟨rfl, B.out⟩
set_option maxRecDepth 100000 in
theorem lifted (os : Os) (started : os.Started) (H : Type) (enc : TypeId × Value → H) :
  ReturnsInHanded {} Tryz.checked os 11 .any (Rows.fnHeadValueSpec.pre6 enc Tryz.prog Tryz.f11 Rows.fnHeadValueRow.domain false) (Rows.fnHeadValueSpec.post enc Tryz.prog Tryz.f11 false true false false) := by
 refine returnsInHanded_of_change (C := Tryz.checked) own started (by kernel_rfl) Tryz.func11
  (ChangeSpec.witness6 (enc := enc) (C := Tryz.checked) false ⟨#[], #[.slice none 0 0], []⟩ 8 (by kernel_rfl) (by kernel_rfl) (by kernel_rfl) (by kernel_rfl)) ?_
 intro W base args ds gs before hval0 hW hcnd _
 have hval : ∀ (j : Nat) t v, Tryz.f11.params[j]? = some t → args[j]? = some v → Value.okWide Tryz.prog W .any base t v := hval0
 have hW' := hW
 obtain ⟨p, q, hA0, hV, rfl, hfz, hnd⟩ := hW
 have hA : DataW.TrodAll enc Tryz.prog W 0 (fun _ => true) true Tryz.f11.params.toList args.toList ds p := hA0
 rw [Tryz.params11] at hA hval
 obtain ⟨v0, vs0, d0, ds0, p0, q0, hargs, rfl, rfl, h0, r0⟩ := trodAll_cons hA
 obtain ⟨rfl, rfl, rfl⟩ := trodAll_nil r0
 obtain rfl : args = #[v0] := by cases args; simp_all
 obtain ⟨U0, ad0, bb0, oo0, len0, cap0, rfl, hlc0, hcm0, hbl0, hby0⟩ := open_bytes (hval 0 22 v0 rfl rfl) h0
 refine (walk U0 ad0 bb0 oo0 len0 cap0 W hlc0 hcm0 hby0).mono fun e W' ⟨he, hb⟩ => ?_
 subst he
 exact ⟨_, rfl, law_post rfl rfl (fun gs h => by subst h; rfl) (by rw [Tryz.params11]; exact readable_FnHeadValue) laid hW' hb⟩
theorem over : Rows.fnHeadValueRow.holds Tryz.pinned (OpenSpec.ofChange Rows.fnHeadValueSpec) :=
 OpenClaim.holds_of_wide 11 Tryz.f11 rfl rfl rfl rfl rfl rfl rfl ⟨rfl, rfl, rfl, rfl, rfl⟩ rfl rfl rfl rfl rfl (by kernel_rfl) Tryz.func11 (by kernel_rfl)
  (of_decide_eq_true (by kernel_rfl)) (by unfold Func.isWrapper; first | (rw [if_pos (by decide +kernel)]; kernel_rfl) | (rw [if_neg (by decide +kernel)]; exact ⟨rfl, rfl⟩))
  (fun os started H enc _ => lifted os started H enc)
theorem proved : Rows.FnHeadValueSaid :=
 over
end Go.Proofs.YtabbbnddfcbdiaaGreat.fnHeadValue
