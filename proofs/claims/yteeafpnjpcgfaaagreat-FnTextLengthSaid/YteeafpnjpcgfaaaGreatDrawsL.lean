/-
  DrawFormatTerm.
-/
import Derived.Test.YteeafpnjpcgfaaaGreatDrawsA
namespace Go.Proofs.YteeafpnjpcgfaaaGreat
open Go.RowKit

theorem dFormatTerm_any {U : Nat → Int} {a : Option Addr} {b o len cap : Nat} (w : World) (hlen : len ≤ 140737488355328) (hcap : len ≤ cap) (hby : Bytes U a b o len w) : Calls Tryz.prog 13 #[.slice a len cap] w (TmPost w) := by
  have hz0 : (w.alloc (.cells #[.int .i64 0, .int .i64 0, .slice none 0 0] 29)).heap.size = w.heap.size + 1 := by simp
  have hb0 : Below w.heap.size w (w.alloc (.cells #[.int .i64 0, .int .i64 0, .slice none 0 0] 29)) := below1 _ _
  have HO := tuck (dTermValid_any (w.alloc (.cells #[.int .i64 0, .int .i64 0, .slice none 0 0] 29)) hlen hcap (hby.below hb0))
  have HP : Hid (∀ T v w', TmIn w' w.heap.size T v → T.size ≤ 1000 → Below w.heap.size w w' → TmPost w (.returned v) w') := fun T v w' h1 h2 h3 => ⟨T, v, rfl, h1, h2, h3⟩
  have HV : Hid (VarAt w.heap.size 0 0 (.slice none 0 0) (w.alloc (.cells #[.int .i64 0, .int .i64 0, .slice none 0 0] 29))) := VarAt.new w 0 0 (.slice none 0 0)
  generalize TmPost w = post at *
  clear hby
  go_enter Tryz.func13, Tryz.ntmps13
  go_wp2_with fail
  refine HO.out.mono ?_
  rintro e w1 ⟨T, v, rfl, ⟨s, rfl, hin⟩, hsz, hb⟩
  generalize w.alloc (.cells #[.int .i64 0, .int .i64 0, .slice none 0 0] 29) = W0 at *
  obtain ⟨sa, sc, rfl⟩ := hin.form
  have HIN := tuck hin
  have HB := tuck (bAfter hb0 hb)
  replace HV := tuck (HV.out.below hb)
  clear hin hb HO hb0
  have hz3 : w.heap.size < W0.heap.size := by omega
  obtain ⟨zv, v0, v1, v2, vf⟩ := HV.out.facts
  go_wp2_with fail
  refine bodyPost_ret (v := .agg #[.int .i64 T.kind, .int .i64 T.num, .slice sa T.kids.length sc]) (by simp [results, Tryz.results13, go_sem, *]) rfl (HP.out T _ _ ⟨_, rfl, (HIN.out.set3 hz3).mono (Nat.le_of_lt hz3)⟩ hsz (bSet3 HB.out (Nat.le_refl _) _ _ _ _ _ _))

end Go.Proofs.YteeafpnjpcgfaaaGreat
