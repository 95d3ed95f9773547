/-
  PthD.
-/
import Derived.Test.YtpddjebdncaceaaGreatR49
import Derived.Test.YtpddjebdncaceaaGreatR50
namespace Go.Proofs.YtpddjebdncaceaaGreat
open Go.RowKit
theorem dRedexPlaces_any {U : Nat → Int} {a : Option Addr} {b o len cap : Nat} (w : World) (hlen : len ≤ 140737488355328) (hcap : len ≤ cap) (hby : Bytes U a b o len w) : Calls Tryz.prog 25 #[.slice a len cap] w (TmPostR w) := by
 have hz0 : (w.alloc (.cells #[.int .i64 0, .int .i64 0, .slice none 0 0] 34)).heap.size = w.heap.size + 1 := by simp
 have hb0 : Below w.heap.size w (w.alloc (.cells #[.int .i64 0, .int .i64 0, .slice none 0 0] 34)) := below1 _ _
 have HO := tuck (dRedexOf_any (w.alloc (.cells #[.int .i64 0, .int .i64 0, .slice none 0 0] 34)) hlen hcap (hby.below hb0))
 have HP : Hid (∀ T v w', TmIn w' w.heap.size T v → T.size ≤ 1000 → Below w.heap.size w w' → TmPostR w (.returned v) w') := fun T v w' h1 h2 h3 => ⟨T, v, rfl, h1, h2, h3⟩
 have HV : Hid (VarAt w.heap.size 0 0 (.slice none 0 0) (w.alloc (.cells #[.int .i64 0, .int .i64 0, .slice none 0 0] 34))) := VarAt.new w 0 0 (.slice none 0 0)
 generalize TmPostR w = post at *
 clear hby
 go_enter Tryz.func25, Tryz.ntmps25
 go_wp2_with fail
 refine HO.out.mono ?_
 rintro e w1 ⟨T, v, rfl, ⟨s, rfl, hin⟩, hsz, hb⟩
 generalize w.alloc (.cells #[.int .i64 0, .int .i64 0, .slice none 0 0] 34) = W0 at *
 obtain ⟨sa, sc, rfl⟩ := hin.form
 have HIN := tuck hin
 have HB := tuck (bAfter hb0 hb)
 replace HV := tuck (HV.out.below hb)
 clear hin hb HO hb0
 have hz3 : w.heap.size < W0.heap.size := by omega
 obtain ⟨zv, v0, v1, v2, vf⟩ := HV.out.facts
 go_wp2_with fail
 refine bodyPost_ret (v := .agg #[.int .i64 T.kind, .int .i64 T.num, .slice sa T.kids.length sc]) (by simp [results, Tryz.results25, go_sem, *]) rfl (HP.out T _ _ ⟨_, rfl, (HIN.out.set3 hz3).mono (Nat.le_of_lt hz3)⟩ hsz (bSet3 HB.out (Nat.le_refl _) _ _ _ _ _ _))
end Go.Proofs.YtpddjebdncaceaaGreat
