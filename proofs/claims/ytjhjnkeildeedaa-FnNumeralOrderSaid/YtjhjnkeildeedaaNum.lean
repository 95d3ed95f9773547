/-
  impl.Numeral makes the numeral of a number in memory of its own.
-/
import Derived.Test.YtjhjnkeildeedaaRow
import Derived.Test.YtjhjnkeildeedaaProg
import Derived.WalkSpells
import Derived.ProofKit
namespace Go.Proofs.Ytjhjnkeildeedaa
open Go.RowKit

def numKind (q : Nat) : Int := if q = 0 then 7 else 8
theorem numT_kind (q : Nat) : (numT q).kind = numKind q := by cases q <;> rfl
theorem numT_num (q : Nat) : (numT q).num = 0 := by cases q <;> rfl

/-- A term of the call's own: its value, its blocks. -/
def Made (B : Nat) (t : Tm) (v : Value) (w : World) : Prop := ∃ s F, v = .agg #[.int .i64 t.kind, .int .i64 t.num, s] ∧ SlOwn w t.kids s F ∧ F.Nodup ∧ ∀ g ∈ F, B ≤ g ∧ g < w.heap.size

/-- What Numeral leaves. -/
def NumPost (n : Int) (w : World) (e : Ending) (w' : World) : Prop := Below w.heap.size w w' ∧
  ∃ v, e = .returned (.tuple #[v, .bool (decide (0 ≤ n ∧ n ≤ 20))]) ∧ Made w.heap.size (if 0 ≤ n ∧ n ≤ 20 then numT n.toNat else .mk 0 0 []) v w'

/-- A variable of a term's type: a block with the three cells. -/
def VarAt (g : Nat) (k n : Int) (s : Value) (w : World) : Prop := w.heap[g]? = some (.cells #[.int .i64 k, .int .i64 n, s] 32 (0, 0))
theorem VarAt.facts {g : Nat} {k n : Int} {s : Value} {w : World} (h : VarAt g k n s w) : g < w.heap.size ∧ w.cell? ⟨g, 0, none⟩ = some (.int .i64 k) ∧ w.cell? ⟨g, 1, none⟩ = some (.int .i64 n) ∧ w.cell? ⟨g, 2, none⟩ = some s ∧ ∀ i, w.frozen? ⟨g, i, none⟩ = false := by
  obtain ⟨h1, h2, h3⟩ := block_of_cells h
  exact ⟨h1, h2 0, h2 1, h2 2, h3⟩
theorem VarAt.below {g : Nat} {k n : Int} {s : Value} {w w' : World} (h : VarAt g k n s w) (hb : Below w.heap.size w w') : VarAt g k n s w' := (hb.block g h.facts.1).trans h
theorem VarAt.far {g : Nat} {k n : Int} {s : Value} {w : World} (h : VarAt g k n s w) {p : Addr} (hp : g ≠ p.block) (u : Value) : VarAt g k n s (w.setCell p u) := (Below.heap_setCell w p u g hp).trans h
theorem VarAt.far3 {g : Nat} {k n : Int} {s : Value} {w : World} (h : VarAt g k n s w) {g' : Nat} (hp : g ≠ g') (a b c : Nat) (x y z : Value) : VarAt g k n s (((w.setCell ⟨g', a, none⟩ x).setCell ⟨g', b, none⟩ y).setCell ⟨g', c, none⟩ z) :=
  ((h.far (p := ⟨g', a, none⟩) hp _).far (p := ⟨g', b, none⟩) hp _).far (p := ⟨g', c, none⟩) hp _
theorem VarAt.set {g : Nat} {k n k' n' : Int} {s s' : Value} {w : World} (h : VarAt g k n s w) : VarAt g k' n' s' (((w.setCell ⟨g, 0, none⟩ (.int .i64 k')).setCell ⟨g, 1, none⟩ (.int .i64 n')).setCell ⟨g, 2, none⟩ s') := by
  have := block_set (block_set (block_set h 0 (.int .i64 k')) 1 (.int .i64 n')) 2 s'
  simpa [VarAt] using this
theorem VarAt.new (w : World) (k n : Int) (s : Value) : VarAt w.heap.size k n s (w.alloc (.cells #[.int .i64 k, .int .i64 n, s] 32)) := heap_new _ _

set_option maxRecDepth 100000 in
theorem hasNum_any (n : Int) (w : World) : Calls Try.prog 45 #[.int .i64 n] w (fun e w' => e = .returned (.bool (decide (0 ≤ n ∧ n ≤ 20))) ∧ w' = w) := by
  have HP : Hid (∀ x, x = decide (0 ≤ n ∧ n ≤ 20) → (fun (e : Ending) w' => e = .returned (.bool (decide (0 ≤ n ∧ n ≤ 20))) ∧ w' = w) (.returned (.bool x)) w) := tuck fun x h => by rw [h]; exact ⟨rfl, rfl⟩
  generalize (fun (e : Ending) w' => e = .returned (.bool (decide (0 ≤ n ∧ n ≤ 20))) ∧ w' = w) = post at *
  by_cases ha : 0 ≤ n
  · have ha' : decide (0 ≤ n) = true := decide_eq_true ha
    go_enter Try.func45, Try.ntmps45
    go_wp2
    exact HP.out _ (by simp [ha])
  · have ha' : decide (0 ≤ n) = false := decide_eq_false ha
    go_enter Try.func45, Try.ntmps45
    go_wp2
    exact HP.out _ (by simp; omega)

set_option maxRecDepth 100000 in
theorem numI_any (n : Int) (w : World) : Calls Try.prog 25 #[.int .i64 n] w (NumPost n w) := by
  by_cases hn : 0 ≤ n ∧ n ≤ 20
  rotate_left
  · have HP : Hid (∀ w', Below w.heap.size w w' → NumPost n w (.returned (.tuple #[.agg #[.int .i64 0, .int .i64 0, .slice none 0 0], .bool false])) w') := fun w' hb =>
      ⟨hb, _, by rw [show decide (0 ≤ n ∧ n ≤ 20) = false by simpa using hn], by rw [if_neg hn]; exact ⟨_, [], rfl, SlOwn.nil _ _ _, List.nodup_nil, fun g h => by cases h⟩⟩
    generalize NumPost n w = post at *
    have HH : Hid (∀ W, Calls Try.prog 45 #[.int .i64 n] W (fun e w' => e = .returned (.bool false) ∧ w' = W)) := tuck fun W => by have := hasNum_any n W; rwa [show decide (0 ≤ n ∧ n ≤ 20) = false by simpa using hn] at this
    go_enter Try.func25, Try.ntmps25
    go_wp2_with fail
    refine (HH.out _).mono ?_
    rintro e w1 ⟨rfl, rfl⟩
    go_wp2_with fail
    refine bodyPost_ret (v := .tuple #[.agg #[.int .i64 0, .int .i64 0, .slice none 0 0], .bool false]) (by simp [results, Try.results25, go_sem]) rfl (HP.out _ ?_)
    exact below1 _ _
  obtain ⟨m, rfl⟩ : ∃ m : Nat, n = m := ⟨n.toNat, by omega⟩
  have hm : m ≤ 20 := by omega
  have HP : Hid (∀ w' s F, Below w.heap.size w w' → SlOwn w' (numT m).kids s F → F.Nodup → (∀ g ∈ F, w.heap.size ≤ g ∧ g < w'.heap.size) → NumPost m w (.returned (.tuple #[.agg #[.int .i64 (numKind m), .int .i64 0, s], .bool true])) w') := fun w' s F hb h1 h2 h3 =>
    ⟨hb, _, by rw [show decide ((0 : Int) ≤ m ∧ (m : Int) ≤ 20) = true by simpa using hn], by rw [if_pos hn, Int.toNat_natCast]; exact ⟨s, F, by rw [numT_kind, numT_num], h1, h2, h3⟩⟩
  generalize NumPost (m : Int) w = post at *
  have HH : Hid (∀ W, Calls Try.prog 45 #[.int .i64 m] W (fun e w' => e = .returned (.bool true) ∧ w' = W)) := tuck fun W => by have := hasNum_any m W; rwa [show decide (0 ≤ (m : Int) ∧ (m : Int) ≤ 20) = true by simpa using hn] at this
  clear hn
  go_enter Try.func25, Try.ntmps25
  go_wp2_with fail
  refine (HH.out _).mono ?_
  rintro e w1 ⟨rfl, rfl⟩
  go_wp2_with fail
  have v0 : VarAt w.heap.size 0 0 (.slice none 0 0) ((w.alloc (.cells #[.int .i64 0, .int .i64 0, .slice none 0 0] 32)).alloc (.cells #[.int .i64 7, .int .i64 0, .slice none 0 0] 32)) := (VarAt.new _ _ _ _).below (below1 _ _)
  have v1 : VarAt (w.heap.size + 1) 7 0 (.slice none 0 0) ((w.alloc (.cells #[.int .i64 0, .int .i64 0, .slice none 0 0] 32)).alloc (.cells #[.int .i64 7, .int .i64 0, .slice none 0 0] 32)) := by
    have := VarAt.new (w.alloc (.cells #[.int .i64 0, .int .i64 0, .slice none 0 0] 32)) 7 0 (.slice none 0 0)
    simpa using this
  have hb0 : Below w.heap.size w ((w.alloc (.cells #[.int .i64 0, .int .i64 0, .slice none 0 0] 32)).alloc (.cells #[.int .i64 7, .int .i64 0, .slice none 0 0] 32)) := below2 _ _ _
  generalize ((w.alloc (.cells #[.int .i64 0, .int .i64 0, .slice none 0 0] 32)).alloc (.cells #[.int .i64 7, .int .i64 0, .slice none 0 0] 32)) = W0 at *
  have V0 := tuck v0
  have V1 := tuck v1
  have HB0 := tuck hb0
  clear v0 v1 hb0
  go_loopw [11] (fun i wr => ∃ (q : Nat) (sa : Option Addr) (sl sc : Nat) (F : List Nat), q ≤ m ∧ i = .int .i64 q ∧ Below w.heap.size w wr ∧ VarAt w.heap.size 0 0 (.slice none 0 0) wr ∧ VarAt (w.heap.size + 1) (numKind q) 0 (.slice sa sl sc) wr ∧ SlOwn wr (numT q).kids (.slice sa sl sc) F ∧ F.Nodup ∧ ∀ g ∈ F, w.heap.size + 1 < g ∧ g < wr.heap.size) (fun i _ => m - (intOf i).toNat)
  case atStart => exact ⟨0, none, 0, 0, [], Nat.zero_le _, rfl, HB0.out, V0.out, V1.out, SlOwn.nil _ _ _, List.nodup_nil, fun g h => by cases h⟩
  case round =>
    obtain ⟨q, sa, sl, sc, F, hq, rfl, hb, hv0, hv1, hown, hnd, hF⟩ := hrel
    obtain ⟨z0, a0, a1, a2, af⟩ := hv0.facts
    obtain ⟨z1, b0, b1, b2, bf⟩ := hv1.facts
    have HB := tuck hb
    have HV0 := tuck hv0
    have HV1 := tuck hv1
    have HOWN := tuck hown
    have HND := tuck hnd
    have HF := tuck hF
    clear hb hv0 hv1 hown hnd hF
    by_cases hlt : q < m
    · have hlti : ((q : Int) < (m : Int)) := by omega
      go_wp2
      go_roundw
      case rel =>
        have hg : wr.heap.size ∉ F := fun h => by have := (HF.out _ h).2; omega
        have hn1 : w.heap.size + 1 ∉ F := fun h => by have := (HF.out _ h).1; omega
        have hs3 := size_set3 wr (w.heap.size + 1) 0 1 2 (.int .i64 8) (.int .i64 0) (.slice (some ⟨wr.heap.size, 0, none⟩) 1 1)
        have hb3 := bSet3 HB.out (Nat.le_succ w.heap.size) 0 1 2 (.int .i64 8) (.int .i64 0) (.slice (some ⟨wr.heap.size, 0, none⟩) 1 1)
        have hv3 := HV0.out.far3 (Nat.ne_of_lt (Nat.lt_succ_self w.heap.size)) 0 1 2 (.int .i64 8) (.int .i64 0) (.slice (some ⟨wr.heap.size, 0, none⟩) 1 1)
        have hv4 : VarAt (w.heap.size + 1) 8 0 (.slice (some ⟨wr.heap.size, 0, none⟩) 1 1) _ := HV1.out.set
        have ho3 := HOWN.out.set3 hn1 0 1 2 (.int .i64 8) (.int .i64 0) (.slice (some ⟨wr.heap.size, 0, none⟩) 1 1)
        change Below _ _ (((wr.setCell ⟨w.heap.size + 1, 0, none⟩ _).setCell ⟨w.heap.size + 1, 1, none⟩ _).setCell ⟨w.heap.size + 1, 2, none⟩ _) at hb3
        change VarAt _ _ _ _ (((wr.setCell ⟨w.heap.size + 1, 0, none⟩ _).setCell ⟨w.heap.size + 1, 1, none⟩ _).setCell ⟨w.heap.size + 1, 2, none⟩ _) at hv3
        generalize ((wr.setCell ⟨w.heap.size + 1, 0, none⟩ (.int .i64 8)).setCell ⟨w.heap.size + 1, 1, none⟩ (.int .i64 0)).setCell ⟨w.heap.size + 1, 2, none⟩ (.slice (some ⟨wr.heap.size, 0, none⟩) 1 1) = W1 at *
        have hown2 : SlOwn (W1.alloc (.cells #[.int .i64 (numKind q), .int .i64 0, .slice sa sl sc] 32)) [numT q] (.slice (some ⟨W1.heap.size, 0, none⟩) 1 1) (W1.heap.size :: F) := by
          have h := SlOwn.of_block (r := [(numT q, .slice sa sl sc, F)]) (cap := 1) (heap_new W1 (.cells #[.int .i64 (numKind q), .int .i64 0, .slice sa sl sc] 32)) (by simp [cellsL, numT_kind, numT_num]) (by simp [maxLen]) (fun x hx => by
            simp only [List.mem_singleton] at hx; subst hx
            exact ho3.alloc (fun g hg => by rw [hs3]; exact (HF.out g hg).2) _)
          simpa using h
        rw [← hs3] at hg
        refine ⟨q + 1, some ⟨wr.heap.size, 0, none⟩, 1, 1, W1.heap.size :: F, by omega, by go_num, hb3.alloc hb3.size _, hv3.below (below1 _ _), hv4.below (below1 _ _), by rw [← hs3]; exact hown2, List.nodup_cons.2 ⟨hg, HND.out⟩, fun g h => ?_⟩
        rcases List.mem_cons.1 h with rfl | h
        · simp; omega
        · have := HF.out g h
          simp; omega
      case measure => simp [intOf]; omega
    · have hge2 : ¬ ((q : Int) < (m : Int)) := by omega
      have e : q = m := by omega
      subst e
      go_wp2
      refine bodyPost_ret (v := .tuple #[.agg #[.int .i64 (numKind q), .int .i64 0, .slice sa sl sc], .bool true]) (by simp [results, Try.results25, go_sem, *]) rfl (HP.out _ _ F ?_ ?_ HND.out fun g hg => ?_)
      · exact bSet3 HB.out (Nat.le_refl _) _ _ _ _ _ _
      · exact HOWN.out.set3 (fun h => by have := (HF.out _ h).1; omega) _ _ _ _ _ _
      · have := HF.out g hg
        rw [size_set3]; omega

end Go.Proofs.Ytjhjnkeildeedaa
