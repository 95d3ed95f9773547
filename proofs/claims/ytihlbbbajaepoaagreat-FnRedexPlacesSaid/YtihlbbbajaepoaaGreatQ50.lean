/-
  VarsQ, VarsP.
-/
import Derived.Test.YtihlbbbajaepoaaGreatQ25
import Derived.Test.YtihlbbbajaepoaaGreatQ29
import Derived.Test.YtihlbbbajaepoaaGreatQ37
import Derived.Test.YtihlbbbajaepoaaGreatQ38
import Derived.Test.YtihlbbbajaepoaaGreatQ49
namespace Go.Proofs.YtihlbbbajaepoaaGreat
open Go.RowKit
def NewPost8 (w : World) (T : Tm) (b : Bool) (e : Ending) (w' : World) : Prop := Below w.heap.size w w' ∧ ∃ v, e = .returned (.tuple #[v, .bool b]) ∧ TmIn w' w.heap.size T v
theorem way_split {t Y : Tm} {N : Int → Int} {k : Nat} {P : List (Tm × Nat)} (h : way t N k = some (P, Y)) : ∀ m : Nat, way t N (k + m) = (way Y (fun j => N (k + j)) m).map fun y => (P ++ y.1, y.2)
 | 0 => by rw [Nat.add_zero, h, way]; simp
 | m + 1 => by
  rw [← Nat.add_assoc, way, way_split h m, way]
  cases way Y (fun j => N (k + j)) m with
  | none => rfl
  | some y =>
   simp only [Option.map_some, Option.bind_some]
   rw [show ((k + m : Nat) : Int) = (k : Int) + (m : Int) by push_cast; rfl]
   split <;> simp
theorem place_first {t : Tm} {N : Int → Int} {n k : Nat} (h : IsPlace t N n) (hk : k ≤ n) : IsPlace t N k := by
 refine ⟨h.1, ?_⟩
 cases hw : way t N k with
 | some y => rfl
 | none =>
  have := way_stays hw (n - k)
  rw [show k + (n - k) = n by omega] at this
  have h2 := h.2
  rw [this] at h2
  cases h2
theorem place_rest {t : Tm} {N : Int → Int} {n k : Nat} (h : IsPlace t N n) (hk : k ≤ n) : IsPlace (wayT t N k) (fun j => N (k + j)) (n - k) ∧ wayT (wayT t N k) (fun j => N (k + j)) (n - k) = wayT t N n ∧ wayP t N n = wayP t N k ++ wayP (wayT t N k) (fun j => N (k + j)) (n - k) := by
 have h1 := place_first h hk
 have hs := way_split h1.way (n - k)
 rw [show k + (n - k) = n by omega, h.way] at hs
 have hv := h1.ok.valid
 cases hw : way (wayT t N k) (fun j => N (k + j)) (n - k) with
 | none => rw [hw] at hs; cases hs
 | some y =>
  rw [hw] at hs
  simp only [Option.map_some, Option.some.injEq, Prod.mk.injEq] at hs
  obtain ⟨k1, k2, k3⟩ := is_place hv (show way (wayT t N k) (fun j => N (k + j)) (n - k) = some (y.1, y.2) from hw)
  exact ⟨k1, k3.trans hs.2.symm, by rw [k2]; exact hs.1⟩
theorem bindersIn_app (p q : List (Tm × Nat)) : bindersIn (p ++ q) = bindersIn p + bindersIn q := by
 unfold bindersIn
 rw [List.filter_append, List.length_append]
theorem IntsC.take {w : World} {B b o n c c' : Nat} {N : Int → Int} (h : IntsC w B N n (.slice (some ⟨b, o, none⟩) n c)) (k : Nat) (hk : k ≤ n) : Ints w B N k (.slice (some ⟨b, o, none⟩) k c') := by
 obtain ⟨⟨a, cap, b', o', he, h1, h2⟩, -⟩ := h
 cases he
 refine ⟨_, c', b', o', rfl, fun h0 => ?_, fun i hi => h2 i (by omega)⟩
 exact h1 (by omega)
theorem IntsC.cap {w : World} {B n c : Nat} {a : Option Addr} {N : Int → Int} (h : IntsC w B N n (.slice a n c)) : n ≤ c := by
 obtain ⟨a', c', he, h⟩ := h.room
 cases he
 exact h
theorem IntsC.rest' {w : World} {b o n c : Nat} {N : Int → Int} (h : IntsC w 0 N n (.slice (some ⟨b, o, none⟩) n c)) (k : Nat) (hk : k ≤ n) : ∃ q : Nat, (if c = k then some (⟨b, o, none⟩ : Addr) else some ⟨b, o + k, none⟩) = some ⟨b, q, none⟩ ∧ Ints w 0 (fun j => N (k + j)) (n - k) (.slice (some ⟨b, q, none⟩) (n - k) (c - k)) := by
 have hc := h.cap
 refine ⟨if c = k then o else o + k, by split <;> rfl, ?_⟩
 obtain ⟨⟨a, cap, b', o', he, h1, h2⟩, -⟩ := h
 cases he
 by_cases e : c = k
 ·rw [if_pos e]
  exact ⟨_, _, b, o, rfl, fun h0 => absurd h0 (by omega), fun i hi => absurd hi (by omega)⟩
 ·rw [if_neg e]
  by_cases h0 : 0 < n
  ·obtain ⟨e1, -, e3⟩ := h1 h0
   injection e1 with e1
   injection e1 with e1 e2 _
   subst e1
   subst e2
   refine ⟨_, _, b, o + k, rfl, fun _ => ⟨rfl, Nat.zero_le _, e3⟩, fun i hi => ?_⟩
   have := h2 (k + i) (by omega)
   rw [show o + k + i = o + (k + i) by omega, this]
   push_cast
   rfl
  ·exact ⟨_, _, b, o + k, rfl, fun h0 => absurd h0 (by omega), fun i hi => absurd hi (by omega)⟩
end Go.Proofs.YtihlbbbajaepoaaGreat
namespace Go.Proofs.YtihlbbbajaepoaaGreat
open Go.RowKit
theorem TlRes.pair8 {w w' : World} {P : Prop} {T : Tm} {e : Ending} (h : TlRes w P T e w') : PairPost w (orZero P T) (tr P) e w' := by
 obtain ⟨hb, a, c, rfl, hs⟩ := h
 exact ⟨hb, _, rfl, _, rfl, hs.mono (Nat.zero_le _)⟩
theorem termAtI_p {t : Tm} {N : Int → Int} {len : Nat} (hlen : len ≤ 1048576) (w : World) (v tv : Value) (hl : Ints w 0 N len v) (ht : TmIn w 0 t tv) : Calls Tryz.prog 23 #[tv, v] w (PairPost w (orZero (IsPlace t N len) (wayT t N len)) (tr (IsPlace t N len))) := (termAtI_any t N len hlen w tv v ht hl).mono fun _ _ h => h.pair
theorem termAtI_n {t : Tm} {N : Int → Int} {len : Nat} (hlen : len ≤ 1048576) (w : World) (v tv : Value) (hl : Ints w 0 N len v) (ht : TmIn w 0 t tv) : Calls Tryz.prog 23 #[tv, v] w (NewPost8 w (orZero (IsPlace t N len) (wayT t N len)) (tr (IsPlace t N len))) := (termAtI_any t N len hlen w tv v ht hl).mono fun _ _ ⟨hb, v, he, s, _, hv, hs, _, hF⟩ => ⟨hb, v, he, s, hv, hs.sl fun g hg => (hF g hg).1⟩
theorem termAtS_p {t : Tm} {N : Int → Int} {len : Nat} (hlen : len ≤ 1048576) (w : World) (v tv : Value) (hl : Ints w 0 N len v) (ht : TmIn w 0 t tv) : Calls Tryz.prog 24 #[tv, v] w (PairPost w (orZero (IsPlace t N len) (wayT t N len)) (tr (IsPlace t N len))) := (termAtS_any t N len hlen w tv v ht hl).mono fun _ _ h => h.pair8
theorem bindersI_q {t : Tm} {N : Int → Int} {len : Nat} (hlen : len ≤ 1048576) (w : World) (v tv : Value) (hl : Ints w 0 N len v) (ht : TmIn w 0 t tv) (h : IsPlace t N len) : Calls Tryz.prog 26 #[tv, v] w fun e w' => e = .returned (.tuple #[.int .i64 (bindersIn (wayP t N len) : Nat), .bool true]) ∧ Below w.heap.size w w' := (bindersI_any t N len hlen w tv v ht hl).mono fun _ _ ⟨hb, he⟩ => ⟨by rw [he, tr_of h]; unfold orNone; rw [if_pos h], hb⟩
end Go.Proofs.YtihlbbbajaepoaaGreat
