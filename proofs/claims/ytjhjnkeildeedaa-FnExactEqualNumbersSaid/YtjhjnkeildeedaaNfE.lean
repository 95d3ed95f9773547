/-
  EqualNumbers, the model's and the program's.
-/
import Derived.Test.YtjhjnkeildeedaaNumS
import Derived.Test.YtjhjnkeildeedaaModel
namespace Go.Proofs.Ytjhjnkeildeedaa
open Go.RowKit
set_option linter.unusedVariables false
set_option linter.unusedSimpArgs false

def EqOk (a b : Int) : Prop := a = b ∧ 0 ≤ a ∧ a ≤ 20
noncomputable def eqNumT (a b : Int) : Tm := open Classical in if EqOk a b then .mk 11 0 [numT a.toNat] else .mk 0 0 []
theorem eqNumT_small (a b : Int) : sizes (eqNumT a b).kids ≤ 1000000 := by
  unfold eqNumT
  split
  · rename_i h
    have := h.2.2
    simp only [Tm.kids, sizes, numT_size]
    omega
  · simp [Tm.kids, sizes]

theorem term_slice {w : World} {B : Nat} {t : Tm} {sa : Option Addr} {sl sc : Nat} (hB : B ≤ w.heap.size) (h : SlIn w B t.kids (.slice sa sl sc)) : SlIn (w.alloc (.cells #[.int .i64 t.kind, .int .i64 t.num, .slice sa sl sc] 32)) B [t] (.slice (some ⟨w.heap.size, 0, none⟩) 1 1) := by
  refine ⟨some ⟨w.heap.size, 0, none⟩, 1, w.heap.size, 0, rfl, by simp [maxLen], fun _ => ⟨rfl, hB⟩, ?_⟩
  have h := RowAt.of_list (w := w.alloc (.cells #[.int .i64 t.kind, .int .i64 t.num, .slice sa sl sc] 32)) (B := B) (r := [(t, .slice sa sl sc)]) (b := w.heap.size) (o := 0) (fun j u hu => by
    rw [Nat.zero_add, World.cell?_alloc_new, ← hu]
    simp [cellsL]) (fun x hx => by
    simp only [List.mem_singleton] at hx; subst hx
    exact h.below (below1 _ _))
  simpa using h
theorem term_own {w : World} {t : Tm} {s : Value} {F : List Nat} (h : SlOwn w t.kids s F) (hF : ∀ g ∈ F, g < w.heap.size) : SlOwn (w.alloc (.cells #[.int .i64 t.kind, .int .i64 t.num, s] 32)) [t] (.slice (some ⟨w.heap.size, 0, none⟩) 1 1) (w.heap.size :: F) := by
  have h := SlOwn.of_block (r := [(t, s, F)]) (cap := 1) (heap_new w (.cells #[.int .i64 t.kind, .int .i64 t.num, s] 32)) (by simp [cellsL]) (by simp [maxLen]) (fun x hx => by
    simp only [List.mem_singleton] at hx; subst hx
    exact h.alloc hF _)
  simpa using h

set_option maxRecDepth 100000 in
set_option maxHeartbeats 1600000 in
theorem equalS_any (a b : Int) (w : World) : Calls Try.prog 18 #[.int .i64 a, .int .i64 b] w (fun (e : Ending) (w' : World) => Below w.heap.size w w' ∧ ∃ (a0 : Option Addr) (c0 : Nat), e = .returned (.tuple #[.agg #[.int .i64 (eqNumT a b).kind, .int .i64 (eqNumT a b).num, .slice a0 (eqNumT a b).kids.length c0], .bool (tr (EqOk a b))]) ∧ SlIn w' w.heap.size (eqNumT a b).kids (.slice a0 (eqNumT a b).kids.length c0)) := by
  by_cases hok : EqOk a b
  rotate_left
  · have HP : Hid (∀ W, Below w.heap.size w W → (fun (e : Ending) (w' : World) => Below w.heap.size w w' ∧ ∃ (a0 : Option Addr) (c0 : Nat), e = .returned (.tuple #[.agg #[.int .i64 (eqNumT a b).kind, .int .i64 (eqNumT a b).num, .slice a0 (eqNumT a b).kids.length c0], .bool (tr (EqOk a b))]) ∧ SlIn w' w.heap.size (eqNumT a b).kids (.slice a0 (eqNumT a b).kids.length c0)) (.returned (.tuple #[.agg #[.int .i64 0, .int .i64 0, .slice none 0 0], .bool false])) W) := tuck fun W hb => by
      have hT : eqNumT a b = .mk 0 0 [] := if_neg hok
      rw [hT, tr_not hok]
      exact ⟨hb, none, 0, rfl, SlIn.nil _ _ _ _⟩
    generalize (fun (e : Ending) (w' : World) => Below w.heap.size w w' ∧ ∃ (a0 : Option Addr) (c0 : Nat), e = .returned (.tuple #[.agg #[.int .i64 (eqNumT a b).kind, .int .i64 (eqNumT a b).num, .slice a0 (eqNumT a b).kids.length c0], .bool (tr (EqOk a b))]) ∧ SlIn w' w.heap.size (eqNumT a b).kids (.slice a0 (eqNumT a b).kids.length c0)) = post at *
    have hcs : a ≠ b ∨ (a = b ∧ a < 0) ∨ (a = b ∧ ¬ a < 0 ∧ 20 < a) := by
      unfold EqOk at hok; omega
    clear hok
    rcases hcs with h | ⟨rfl, h⟩ | ⟨rfl, h, h2⟩
    · have hd : (a != b) = true := by simpa using h
      go_enter Try.func18, Try.ntmps18
      go_wp2
      refine bodyPost_ret (v := .tuple #[.agg #[.int .i64 0, .int .i64 0, .slice none 0 0], .bool false]) (by simp [results, Try.results18, go_sem]) rfl (HP.out _ ?_)
      exact below1 _ _
    · have hd : (a != a) = false := by simp
      have hd2 : decide (a < 0) = true := decide_eq_true h
      go_enter Try.func18, Try.ntmps18
      go_wp2
      refine bodyPost_ret (v := .tuple #[.agg #[.int .i64 0, .int .i64 0, .slice none 0 0], .bool false]) (by simp [results, Try.results18, go_sem]) rfl (HP.out _ ?_)
      exact below1 _ _
    · have hd : (a != a) = false := by simp
      have hd2 : decide (a < 0) = false := decide_eq_false h
      go_enter Try.func18, Try.ntmps18
      go_wp2
      refine bodyPost_ret (v := .tuple #[.agg #[.int .i64 0, .int .i64 0, .slice none 0 0], .bool false]) (by simp [results, Try.results18, go_sem]) rfl (HP.out _ ?_)
      exact below1 _ _
  have HP : Hid (∀ W a0 c0, Below w.heap.size w W → SlIn W w.heap.size [numT a.toNat] (.slice a0 1 c0) → (fun (e : Ending) (w' : World) => Below w.heap.size w w' ∧ ∃ (a0 : Option Addr) (c0 : Nat), e = .returned (.tuple #[.agg #[.int .i64 (eqNumT a b).kind, .int .i64 (eqNumT a b).num, .slice a0 (eqNumT a b).kids.length c0], .bool (tr (EqOk a b))]) ∧ SlIn w' w.heap.size (eqNumT a b).kids (.slice a0 (eqNumT a b).kids.length c0)) (.returned (.tuple #[.agg #[.int .i64 11, .int .i64 0, .slice a0 1 c0], .bool true])) W) := tuck fun W a0 c0 hb hs => by
    have hT : eqNumT a b = .mk 11 0 [numT a.toNat] := if_pos hok
    rw [hT, tr_of hok]
    exact ⟨hb, a0, c0, rfl, hs⟩
  generalize (fun (e : Ending) (w' : World) => Below w.heap.size w w' ∧ ∃ (a0 : Option Addr) (c0 : Nat), e = .returned (.tuple #[.agg #[.int .i64 (eqNumT a b).kind, .int .i64 (eqNumT a b).num, .slice a0 (eqNumT a b).kids.length c0], .bool (tr (EqOk a b))]) ∧ SlIn w' w.heap.size (eqNumT a b).kids (.slice a0 (eqNumT a b).kids.length c0)) = post at *
  obtain ⟨rfl, h0, h1⟩ := hok
  obtain ⟨m, rfl⟩ : ∃ m : Nat, a = m := ⟨a.toNat, by omega⟩
  rw [Int.toNat_natCast] at HP
  have hm1 : ¬ ((m : Int) < 0) := by omega
  have hm2 : ¬ (20 < (m : Int)) := by omega
  have hm3 : ((m : Int) != (m : Int)) = false := by simp
  have HL : Hid (∀ W, Calls Try.prog 37 #[.int .i64 m] W (IsNum m W)) := tuck fun W => lnum_any m (by omega) W
  clear h0 h1
  go_enter Try.func18, Try.ntmps18
  go_wp2_with fail
  have HB := tuck (below1 w (.cells #[.int .i64 0, .int .i64 0, .slice none 0 0] 32))
  have hzW : (w.alloc (.cells #[.int .i64 0, .int .i64 0, .slice none 0 0] 32)).heap.size = w.heap.size + 1 := by simp
  have HZ := tuck hzW
  clear hzW
  have HV := tuck (VarAt.new w 0 0 (.slice none 0 0))
  generalize w.alloc (.cells #[.int .i64 0, .int .i64 0, .slice none 0 0] 32) = W0 at *
  refine (HL.out _).mono ?_
  rintro e w1 ⟨v, rfl, ⟨s, rfl, hin⟩, hb⟩
  rw [Int.toNat_natCast] at *
  obtain ⟨sa, sc, rfl⟩ := hin.form
  have HIN := tuck (hin.mono (B' := w.heap.size + 1) (by have := HZ.out; omega))
  replace HB := tuck (bAfter HB.out hb)
  replace HV := tuck (HV.out.below hb)
  have hsz := hb.size
  have HSZ : Hid (w.heap.size + 1 ≤ w1.heap.size) := tuck (by have := HZ.out; omega)
  clear hb hin hsz
  go_wp2_with fail
  have HN := tuck (term_slice HSZ.out HIN.out)
  have hb1 := below1 w1 (.cells #[.int .i64 (numT m).kind, .int .i64 (numT m).num, .slice sa (numT m).kids.length sc] 32)
  replace HB := tuck (bAfter HB.out hb1)
  replace HV := tuck (HV.out.below hb1)
  have HSZ2 : Hid (w.heap.size + 1 ≤ (w1.alloc (.cells #[.int .i64 (numT m).kind, .int .i64 (numT m).num, .slice sa (numT m).kids.length sc] 32)).heap.size) := tuck (Nat.le_trans HSZ.out hb1.size)
  clear hb1
  refine (node_any (w.heap.size + 1) 11 [numT m] _ _ (by simp) HSZ2.out (by simp) HN.out).mono ?_
  rintro e w2 ⟨s2, rfl, hs2, hb2⟩
  obtain ⟨sa2, sc2, rfl⟩ := hs2.form
  replace HB := tuck (bAfter HB.out hb2)
  replace HV := tuck (HV.out.below hb2)
  have HS2 := tuck hs2
  clear hb2 hs2
  obtain ⟨z0, k0, k1, k2, kf⟩ := HV.out.facts
  go_wp2_with fail
  refine bodyPost_ret (v := .tuple #[.agg #[.int .i64 11, .int .i64 0, .slice sa2 1 sc2], .bool true]) (by simp [results, Try.results18, go_sem, *]) rfl (HP.out _ _ _ ?_ ?_)
  · exact bSet3 HB.out (Nat.le_refl _) _ _ _ _ _ _
  · exact (((HS2.out.setCell (p := ⟨w.heap.size, 0, none⟩) (Nat.lt_succ_self _) _).setCell (p := ⟨w.heap.size, 1, none⟩) (Nat.lt_succ_self _) _).setCell (p := ⟨w.heap.size, 2, none⟩) (Nat.lt_succ_self _) _).mono (Nat.le_succ _)

set_option maxRecDepth 100000 in
set_option maxHeartbeats 1600000 in
theorem equalI_any (a b : Int) (w : World) : Calls Try.prog 19 #[.int .i64 a, .int .i64 b] w (fun (e : Ending) (w' : World) => Below w.heap.size w w' ∧ ∃ (a0 : Option Addr) (c0 : Nat) (F0 : List Nat), e = .returned (.tuple #[.agg #[.int .i64 (eqNumT a b).kind, .int .i64 (eqNumT a b).num, .slice a0 (eqNumT a b).kids.length c0], .bool (tr (EqOk a b))]) ∧ SlOwn w' (eqNumT a b).kids (.slice a0 (eqNumT a b).kids.length c0) F0 ∧ F0.Nodup ∧ ∀ g ∈ F0, w.heap.size ≤ g ∧ g < w'.heap.size) := by
  have HNUM : Hid (∀ W, Calls Try.prog 25 #[.int .i64 a] W (NumPost a W)) := tuck fun W => numI_any a W
  by_cases hok : EqOk a b
  rotate_left
  · have HP : Hid (∀ W, Below w.heap.size w W → (fun (e : Ending) (w' : World) => Below w.heap.size w w' ∧ ∃ (a0 : Option Addr) (c0 : Nat) (F0 : List Nat), e = .returned (.tuple #[.agg #[.int .i64 (eqNumT a b).kind, .int .i64 (eqNumT a b).num, .slice a0 (eqNumT a b).kids.length c0], .bool (tr (EqOk a b))]) ∧ SlOwn w' (eqNumT a b).kids (.slice a0 (eqNumT a b).kids.length c0) F0 ∧ F0.Nodup ∧ ∀ g ∈ F0, w.heap.size ≤ g ∧ g < w'.heap.size) (.returned (.tuple #[.agg #[.int .i64 0, .int .i64 0, .slice none 0 0], .bool false])) W) := tuck fun W hb => by
      have hT : eqNumT a b = .mk 0 0 [] := if_neg hok
      rw [hT, tr_not hok]
      exact ⟨hb, none, 0, [], rfl, SlOwn.nil _ _ _, List.nodup_nil, fun g h => by cases h⟩
    generalize (fun (e : Ending) (w' : World) => Below w.heap.size w w' ∧ ∃ (a0 : Option Addr) (c0 : Nat) (F0 : List Nat), e = .returned (.tuple #[.agg #[.int .i64 (eqNumT a b).kind, .int .i64 (eqNumT a b).num, .slice a0 (eqNumT a b).kids.length c0], .bool (tr (EqOk a b))]) ∧ SlOwn w' (eqNumT a b).kids (.slice a0 (eqNumT a b).kids.length c0) F0 ∧ F0.Nodup ∧ ∀ g ∈ F0, w.heap.size ≤ g ∧ g < w'.heap.size) = post at *
    obtain ⟨d, hd⟩ : ∃ d, d = decide (0 ≤ a ∧ a ≤ 20) := ⟨_, rfl⟩
    have hcs : d = false ∨ (d = true ∧ (a != b) = true) := by
      rw [hd]
      by_cases h : 0 ≤ a ∧ a ≤ 20
      · exact Or.inr ⟨decide_eq_true h, by simpa using fun e => hok ⟨e, h⟩⟩
      · exact Or.inl (decide_eq_false h)
    have HNU : Hid (∀ W, Calls Try.prog 25 #[.int .i64 a] W (fun e w' => ∃ k n sa sl sc, e = .returned (.tuple #[.agg #[.int .i64 k, .int .i64 n, .slice sa sl sc], .bool d]) ∧ Below W.heap.size W w')) := tuck fun W => (HNUM.out W).mono fun _ _ h => by
      obtain ⟨h1, v, h2, s, F, h3, h4, _⟩ := h
      obtain ⟨sa, sc, rfl⟩ := h4.form
      subst h3
      rw [← hd] at h2
      exact ⟨_, _, sa, _, sc, h2, h1⟩
    clear hok hd HNUM
    go_enter Try.func19, Try.ntmps19
    go_wp2_with fail
    have HB := tuck (below1 w (.cells #[.int .i64 0, .int .i64 0, .slice none 0 0] 32))
    have HV := tuck (VarAt.new w 0 0 (.slice none 0 0))
    generalize w.alloc (.cells #[.int .i64 0, .int .i64 0, .slice none 0 0] 32) = W0 at *
    refine (HNU.out _).mono ?_
    rintro e w1 ⟨k, n, sa, sl, sc, rfl, hb⟩
    replace HB := tuck (bAfter HB.out hb)
    replace HV := tuck (HV.out.below hb)
    clear hb
    have HB2 := tuck (below1 w1 (.cells #[.int .i64 k, .int .i64 n, .slice sa sl sc] 32))
    obtain ⟨z0, k0, k1, k2, kf⟩ := (HV.out.below HB2.out).facts
    rcases hcs with rfl | ⟨rfl, hne⟩
    · go_wp2_with fail
      refine bodyPost_ret (v := .tuple #[.agg #[.int .i64 0, .int .i64 0, .slice none 0 0], .bool false]) (by simp [results, Try.results19, go_sem, *]) rfl (HP.out _ (bSet3 (bAfter HB.out HB2.out) (Nat.le_refl _) _ _ _ _ _ _))
    · go_wp2_with fail
      refine bodyPost_ret (v := .tuple #[.agg #[.int .i64 0, .int .i64 0, .slice none 0 0], .bool false]) (by simp [results, Try.results19, go_sem, *]) rfl (HP.out _ (bSet3 (bAfter HB.out HB2.out) (Nat.le_refl _) _ _ _ _ _ _))
  have HP : Hid (∀ W a0 c0 F0, Below w.heap.size w W → SlOwn W [numT a.toNat] (.slice a0 1 c0) F0 → F0.Nodup → (∀ g ∈ F0, w.heap.size ≤ g ∧ g < W.heap.size) → (fun (e : Ending) (w' : World) => Below w.heap.size w w' ∧ ∃ (a0 : Option Addr) (c0 : Nat) (F0 : List Nat), e = .returned (.tuple #[.agg #[.int .i64 (eqNumT a b).kind, .int .i64 (eqNumT a b).num, .slice a0 (eqNumT a b).kids.length c0], .bool (tr (EqOk a b))]) ∧ SlOwn w' (eqNumT a b).kids (.slice a0 (eqNumT a b).kids.length c0) F0 ∧ F0.Nodup ∧ ∀ g ∈ F0, w.heap.size ≤ g ∧ g < w'.heap.size) (.returned (.tuple #[.agg #[.int .i64 11, .int .i64 0, .slice a0 1 c0], .bool true])) W) := tuck fun W a0 c0 F0 hb hs hn hF => by
    have hT : eqNumT a b = .mk 11 0 [numT a.toNat] := if_pos hok
    rw [hT, tr_of hok]
    exact ⟨hb, a0, c0, F0, rfl, hs, hn, hF⟩
  generalize (fun (e : Ending) (w' : World) => Below w.heap.size w w' ∧ ∃ (a0 : Option Addr) (c0 : Nat) (F0 : List Nat), e = .returned (.tuple #[.agg #[.int .i64 (eqNumT a b).kind, .int .i64 (eqNumT a b).num, .slice a0 (eqNumT a b).kids.length c0], .bool (tr (EqOk a b))]) ∧ SlOwn w' (eqNumT a b).kids (.slice a0 (eqNumT a b).kids.length c0) F0 ∧ F0.Nodup ∧ ∀ g ∈ F0, w.heap.size ≤ g ∧ g < w'.heap.size) = post at *
  obtain ⟨rfl, h0, h1⟩ := hok
  have HNU : Hid (∀ W, Calls Try.prog 25 #[.int .i64 a] W (fun e w' => Below W.heap.size W w' ∧ ∃ v, e = .returned (.tuple #[v, .bool true]) ∧ Made W.heap.size (numT a.toNat) v w')) := tuck fun W => (HNUM.out W).mono fun _ _ h => by
    obtain ⟨k1, v, k2, k3⟩ := h
    rw [decide_eq_true (show 0 ≤ a ∧ a ≤ 20 from ⟨h0, h1⟩)] at k2
    rw [if_pos (show 0 ≤ a ∧ a ≤ 20 from ⟨h0, h1⟩)] at k3
    exact ⟨k1, v, k2, k3⟩
  clear HNUM
  generalize numT a.toNat = T at *
  have hne : (a != a) = false := by simp
  clear h0 h1
  go_enter Try.func19, Try.ntmps19
  go_wp2_with fail
  have HB := tuck (below1 w (.cells #[.int .i64 0, .int .i64 0, .slice none 0 0] 32))
  have HV := tuck (VarAt.new w 0 0 (.slice none 0 0))
  have hzW : (w.alloc (.cells #[.int .i64 0, .int .i64 0, .slice none 0 0] 32)).heap.size = w.heap.size + 1 := by simp
  generalize w.alloc (.cells #[.int .i64 0, .int .i64 0, .slice none 0 0] 32) = W0 at *
  refine (HNU.out _).mono ?_
  rintro e w1 ⟨hb, v, rfl, s, F, rfl, hown, hnd, hF⟩
  obtain ⟨sa, sc, rfl⟩ := hown.form
  replace HB := tuck (bAfter HB.out hb)
  replace HV := tuck (HV.out.below hb)
  rw [hzW] at hF
  clear hb hzW
  have hb2 := below1 w1 (.cells #[.int .i64 T.kind, .int .i64 T.num, .slice sa T.kids.length sc] 32)
  have HV2 := tuck (VarAt.new w1 T.kind T.num (.slice sa T.kids.length sc))
  replace hown := hown.alloc (fun g h => (hF g h).2) (.cells #[.int .i64 T.kind, .int .i64 T.num, .slice sa T.kids.length sc] 32)
  have hF2 : ∀ g ∈ F, w.heap.size < g ∧ g < (w1.alloc (.cells #[.int .i64 T.kind, .int .i64 T.num, .slice sa T.kids.length sc] 32)).heap.size := fun g h => ⟨(hF g h).1, Nat.lt_of_lt_of_le (hF g h).2 hb2.size⟩
  replace HB := tuck (bAfter HB.out hb2)
  replace HV := tuck (HV.out.below hb2)
  have HOWN := tuck hown
  have HFF := tuck hF2
  have HND := tuck hnd
  clear hb2 hown hF2 hF hnd
  obtain ⟨z0, k0, k1, k2, kf⟩ := (HV.out.below (below1 _ (.cells #[.int .i64 T.kind, .int .i64 T.num, .slice sa T.kids.length sc] 32))).facts
  go_wp2_with fail
  have hz1 : (w1.alloc (.cells #[.int .i64 T.kind, .int .i64 T.num, .slice sa T.kids.length sc] 32)).heap.size = w1.heap.size + 1 := by simp
  generalize w1.alloc (.cells #[.int .i64 T.kind, .int .i64 T.num, .slice sa T.kids.length sc] 32) = W1 at *
  have hs := term_own HOWN.out (fun g h => (HFF.out g h).2)
  have hn1 : W1.heap.size ∉ F := fun h => by have := (HFF.out _ h).2; omega
  have hb3 := below1 W1 (.cells #[.int .i64 T.kind, .int .i64 T.num, .slice sa T.kids.length sc] 32)
  have hlast : (W1.alloc (.cells #[.int .i64 T.kind, .int .i64 T.num, .slice sa T.kids.length sc] 32)).heap.size = W1.heap.size + 1 := by simp
  have hw1 : w.heap.size < W1.heap.size := HV.out.facts.1
  rw [hz1] at hs hn1 hlast hw1
  have HB3 := tuck (bAfter HB.out hb3)
  clear hb3
  generalize W1.alloc (.cells #[.int .i64 T.kind, .int .i64 T.num, .slice sa T.kids.length sc] 32) = W2 at *
  refine bodyPost_ret (v := .tuple #[.agg #[.int .i64 11, .int .i64 0, .slice (some ⟨w1.heap.size + 1, 0, none⟩) 1 1], .bool true]) (by simp [results, Try.results19, go_sem, *]) rfl (HP.out _ _ 1 ((w1.heap.size + 1) :: F) (bSet3 HB3.out (Nat.le_refl _) _ _ _ _ _ _) (hs.set3 (fun h => ?_) _ _ _ _ _ _) (List.nodup_cons.2 ⟨hn1, HND.out⟩) (fun g h => ?_))
  · rcases List.mem_cons.1 h with h | h
    · omega
    · have := (HFF.out _ h).1; omega
  · rw [size_set3, hlast]
    rcases List.mem_cons.1 h with rfl | h
    · omega
    · have := HFF.out _ h; omega

end Go.Proofs.Ytjhjnkeildeedaa
