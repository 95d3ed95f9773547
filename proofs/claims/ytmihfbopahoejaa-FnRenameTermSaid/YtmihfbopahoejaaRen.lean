/-
  impl.namesOfFree, RenameTerm's callback.
-/
import Derived.Test.YtmihfbopahoejaaImplS
import Derived.Test.YtmihfbopahoejaaInts
import Derived.StillTailTactics
namespace Go.Proofs.Ytmihfbopahoejaa
open Go.RowKit

/-- Names that may be given to RenameTerm. -/
def NamesOk (N : Int → Int) (len : Nat) : Prop := len ≤ 21 ∧ ∀ i : Nat, i < len → 0 ≤ N i ∧ N i ≤ 20

set_option maxRecDepth 100000 in
theorem names_any (N : Int → Int) (len : Nat) (w : World) (v : Value) (h : Ints w 0 N len v) : Calls Try.prog 65 #[v] w fun e w' => e = .returned (.bool (tr (NamesOk N len))) ∧ w = w' := by
  obtain ⟨a, cap, b, o, rfl, hp, hc⟩ := h
  have HP := tuck hp
  have HC := tuck hc
  clear hp hc
  by_cases h21 : len ≤ 21
  rotate_left
  · have g1 : decide ((21 : Int) < (len : Int)) = true := by simp; omega
    rw [tr_not (fun h => h21 h.1)]
    go_enter Try.func65, Try.ntmps65
    go_wp2
    go_ret
    exact ⟨rfl, rfl⟩
  have g1 : decide ((21 : Int) < (len : Int)) = false := by simp; omega
  have HOK : Hid ((∀ i : Nat, i < len → 0 ≤ N i ∧ N i ≤ 20) → tr (NamesOk N len) = true) := fun h => tr_of ⟨h21, h⟩
  have HNO : Hid (∀ i : Nat, i < len → ¬ (0 ≤ N i ∧ N i ≤ 20) → tr (NamesOk N len) = false) := fun i hi h => tr_not (fun hh => h (hh.2 i hi))
  generalize tr (NamesOk N len) = res at *
  have hl1 : (len : Int) ≤ 21 := by omega
  go_enter Try.func65, Try.ntmps65
  go_wp2
  go_loopw [10] (fun i wr => ∃ q : Nat, q ≤ len ∧ i = .int .i64 q ∧ w = wr ∧ ∀ j : Nat, j < q → 0 ≤ N j ∧ N j ≤ 20) (fun i _ => len - (intOf i).toNat)
  case atStart => exact ⟨0, Nat.zero_le _, rfl, rfl, fun j h => by omega⟩
  case round =>
    obtain ⟨q, hq, rfl, rfl, hN⟩ := hrel
    by_cases hlt : q < len
    · have hlti : ((q : Int) < (len : Int)) := by omega
      have hqi : (0 : Int) ≤ (q : Int) := by omega
      obtain ⟨rfl, _, hbw⟩ := HP.out (by omega)
      have c0 := HC.out q hlt
      have HN := tuck hN
      have HX := tuck (indexValid_any (N q))
      clear hN
      by_cases hok : 0 ≤ N q ∧ N q ≤ 20
      · have HOQ := tuck hok
        rw [show decide (0 ≤ N q ∧ N q ≤ 20) = true by simpa using hok] at HX
        clear hok
        go_wp2_with (go_at_call 45; refine (HX.out _).mono ?_; rintro e' w' ⟨rfl, rfl⟩)
        go_roundw
        case rel => exact ⟨q + 1, by omega, by go_num, by first | rfl | trivial, fun j hj => by
          by_cases e : j = q
          · subst e; exact HOQ.out
          · exact HN.out j (by omega)⟩
        case measure => simp [intOf]; omega
      · have hr := HNO.out q hlt hok
        subst hr
        rw [show decide (0 ≤ N q ∧ N q ≤ 20) = false by simpa using hok] at HX
        clear hok
        go_wp2_with (go_at_call 45; refine (HX.out _).mono ?_; rintro e' w' ⟨rfl, rfl⟩)
        go_ret
        exact ⟨rfl, rfl⟩
    · have hge2 : ¬ ((q : Int) < (len : Int)) := by omega
      have e : q = len := by omega
      subst e
      have hr := HOK.out hN
      subst hr
      go_wp2
      go_ret
      exact ⟨rfl, rfl⟩

set_option maxRecDepth 100000 in
theorem ren1_ok {w0 : World} {M0 : Nat → Prop} {g gn : Nat} {N : Int → Int} {len ncap nb no : Nat} (hN : ∀ i : Nat, i < len → 0 ≤ N i ∧ N i ≤ 20) (hgn : gn < w0.heap.size) (hnm : ¬ M0 gn) (hnc : w0.cell? ⟨gn, 0, none⟩ = some (.slice (some ⟨nb, no, none⟩) len ncap))
    (hnb : nb < w0.heap.size) (hbm : ¬ M0 nb) (hcs : ∀ i : Nat, i < len → w0.cell? ⟨nb, no + i, none⟩ = some (.int .i64 (N i))) :
    UseRepl 200 len w0 M0 g 66 #[.pointer (some ⟨gn, 0, none⟩)] (renMay N) (renTo N) := by
  intro w s M i b d hstep hst hi0 hi1 hil hb0 hb1 hd0 hd1
  obtain ⟨j, rfl⟩ : ∃ j : Nat, i = j := ⟨i.toNat, by omega⟩
  have hjl : j < len := by omega
  have hlt := hst.lt
  have k0 := (hstep.cell (p := ⟨gn, 0, none⟩) hgn hnm).trans hnc
  have k1 := (hstep.cell (p := ⟨nb, no + j, none⟩) hnb hbm).trans (hcs j hjl)
  have hgw : gn < w.heap.size := Nat.lt_of_lt_of_le hgn hstep.size
  have hbw : nb < w.heap.size := Nat.lt_of_lt_of_le hnb hstep.size
  obtain ⟨n0, n1⟩ := hN j hjl
  have hjlt : ((j : Int) < (len : Int)) := by omega
  have HA := tuck (addVar_any g s (N j) b d (w.alloc (.cells #[.int .i64 b, .int .i64 d] 65)).drew M (hst.below _ _ _ _ (below1 _ _).drew) n0 (by omega) hb0 (by omega) hd0 (by omega))
  have HP : Hid (∀ e' w', UsePost (BufAt g 0) M (w.alloc (.cells #[.int .i64 b, .int .i64 d] 65)).drew (emit (0 ≤ N j + b ∧ N j + b ≤ 20) (varT (N j + b)) d s) e' w' → UsePost (BufAt g 0) M w (emit (renMay N j b) (renTo N j b) d s) e' w') := fun e' w' ⟨M', a1, a2, a3⟩ =>
    ⟨M', (Step.of_below (below1 _ _).drew hlt).trans a1, a2, a3⟩
  show Calls Try.prog _ #[.pointer (some ⟨g, 0, none⟩), .int .i64 j, .agg #[.int .i64 b, .int .i64 d], .pointer (some ⟨gn, 0, none⟩)] w _
  generalize UsePost (BufAt g 0) M w (emit (renMay N j b) (renTo N j b) d s) = post at *
  clear hstep hst hnc hlt hcs hN hil hi0 hi1
  go_enter Try.func66, Try.ntmps66
  go_wp2_with fail
  have k0' := ((below1 w (.cells #[.int .i64 b, .int .i64 d] 65)).cell (p := ⟨gn, 0, none⟩) hgw).trans k0
  have k1' := ((below1 w (.cells #[.int .i64 b, .int .i64 d] 65)).cell (p := ⟨nb, no + j, none⟩) hbw).trans k1
  have k2' : (w.alloc (.cells #[.int .i64 b, .int .i64 d] 65)).cell? ⟨w.heap.size, 0, none⟩ = some (.int .i64 b) := by simp
  have k3' : (w.alloc (.cells #[.int .i64 b, .int .i64 d] 65)).cell? ⟨w.heap.size, 1, none⟩ = some (.int .i64 d) := by simp
  clear k0 k1 hgw hbw
  generalize w.alloc (.cells #[.int .i64 b, .int .i64 d] 65) = W1 at *
  generalize w.heap.size = gs at *
  go_still_tail 6, (by kernel_rfl)
  change wpList _ _ _ _ _ W1.drew
  go_wp2_with fail
  refine HA.out.mono ?_
  rintro e' w2 hp
  have HPP := tuck (HP.out e' w2 hp)
  obtain ⟨M', _, rfl, _⟩ := hp
  go_wp2_with fail
  exact HPP.out

end Go.Proofs.Ytmihfbopahoejaa
