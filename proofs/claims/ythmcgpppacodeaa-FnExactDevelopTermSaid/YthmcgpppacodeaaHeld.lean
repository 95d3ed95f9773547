/-
  laws.heldTermS, heldTerm read back what markTermS wrote.
-/
import Derived.Test.YthmcgpppacodeaaMark
namespace Go.Proofs.Ythmcgpppacodeaa
open Go.RowKit

def IntPost' (w : World) (n : Int) (e : Ending) (w' : World) : Prop := e = .returned (.int .i64 n) ∧ Below w.heap.size w w'

set_option maxRecDepth 100000 in
theorem heldS_any : ∀ (l : List Tm) (B : Nat) (k : Int) (w : World) (v : Value), 0 ≤ k → k + 2 * sizes l ≤ 4611686018427387904 → SlIn w B (markL l k) v →
    Calls Try.prog 35 #[v, .int .i64 k] w fun e w' => e = .returned (.int .i64 (k + 2 * sizes l)) ∧ w = w' := by
  intro l
  induction l using Tm.ind with
  | h l ih =>
  intro B k w v hk0 hk1 hin
  obtain ⟨a, cap, b, o, rfl, hl, hp, hc⟩ := hin.open
  clear hin
  have HI := tuck ih
  have HP := tuck hp
  have HC : Hid (∀ i (hi : i < l.length), ∃ s, w.cell? ⟨b, o + i * 3, none⟩ = some (.int .i64 (k + 2 * sizes (l.take i))) ∧ w.cell? ⟨b, o + i * 3 + 1, none⟩ = some (.int .i64 (k + 2 * sizes (l.take i) + 1)) ∧ w.cell? ⟨b, o + i * 3 + 2, none⟩ = some s ∧ SlIn w B (markL l[i].kids (k + 2 * sizes (l.take i) + 1 + 1)) s) := by
    intro i hi
    have h := hc i (by rw [markL_length]; exact hi)
    rw [markL_get l k i hi, Tm.mark_eq] at h
    obtain ⟨s, c0, c1, c2, hs⟩ := h
    refine ⟨s, c0, c1, c2, ?_⟩
    rw [show k + 2 * (sizes (l.take i) : Int) + 1 + 1 = k + 2 * (sizes (l.take i) : Int) + 2 by omega]
    exact hs
  clear ih hp hc
  rw [markL_length] at hl ⊢
  have HNE : Hid (markL l k = [] → l.length = 0) := fun e => by rw [← markL_length l k, e]; rfl
  unfold maxLen at hl
  go_enter Try.func35, Try.ntmps35
  go_wp2
  go_loop [5, 1] (fun i c => ∃ (q : Nat) (kq : Int), q ≤ l.length ∧ i = .int .i64 q ∧ c = .int .i64 kq ∧ kq = k + 2 * sizes (l.take q)) (fun i _ => l.length - (intOf i).toNat)
  case atStart => exact ⟨0, k, Nat.zero_le _, rfl, rfl, by simp [sizes]⟩
  case round =>
    obtain ⟨q, kq, hq, rfl, rfl, hkq⟩ := hrel
    by_cases hlt : q < l.length
    · have hlti : ((q : Int) < (l.length : Int)) := by omega
      have hst := sizes_take_succ l q hlt
      have htr := sizes_take_le l (q + 1)
      rw [Tm.size_eq] at hst
      obtain ⟨rfl, _, hbw⟩ := HP.out (by intro e; have := HNE.out e; omega)
      obtain ⟨s, c0, c1, c2, hs⟩ := HC.out q hlt
      rw [← hkq] at c0 c1 hs
      have hk2 : 0 ≤ kq := by omega
      have hk3 : kq + 1 + 1 + 2 * (sizes l[q].kids : Int) ≤ 4611686018427387904 := by omega
      have HS := tuck hs
      have HI' := tuck (HI.out q hlt)
      have HKQ := tuck hkq
      have HST := tuck hst
      clear hs HI hkq hst htr
      generalize l[q] = x at *
      go_wp2_with (go_at_call 35; refine (HI'.out B (kq + 1 + 1) _ _ (by omega) hk3 HS.out).mono ?_; rintro e w2 ⟨rfl, rfl⟩)
      go_round
      case rel =>
        have h2 := HKQ.out
        have h3 := HST.out
        exact ⟨q + 1, _, by omega, by go_num, rfl, by omega⟩
      case measure => simp [intOf]; omega
    · have hge2 : ¬ ((q : Int) < (l.length : Int)) := by omega
      have HKQ := tuck hkq
      clear hkq
      go_wp2
      go_ret
      have h1 := HKQ.out
      rw [List.take_of_length_le (by omega)] at h1
      exact ⟨ret_int h1, rfl⟩

theorem heldT_any (t : Tm) (l : List Tm) (B : Nat) (k : Int) (w : World) (s : Value) (h0 : 0 ≤ k) (h1 : k + 2 * sizes l ≤ 4611686018427387904) (h : SlIn w B (markL l k) s) :
    Calls Try.prog 18 #[.agg #[.int .i64 t.kind, .int .i64 t.num, s], .int .i64 k] w (IntPost' w (k + 2 * sizes l)) := by
  have HK : Hid (Calls Try.prog 35 #[s, .int .i64 k] (w.alloc (.cells #[.int .i64 t.kind, .int .i64 t.num, s] 28)) fun e w' => e = .returned (.int .i64 (k + 2 * sizes l)) ∧ (w.alloc (.cells #[.int .i64 t.kind, .int .i64 t.num, s] 28)) = w') := heldS_any l B k _ _ h0 h1 (h.below (below1 _ _))
  clear h
  have hk : ¬ (k + 2 * (sizes l : Int)) < 0 := by omega
  go_enter Try.func18, Try.ntmps18
  go_wp2_with (go_at_call 35; refine HK.out.mono ?_; rintro e w2 ⟨rfl, rfl⟩)
  go_ret
  exact ⟨rfl, below1 _ _⟩

end Go.Proofs.Ythmcgpppacodeaa
