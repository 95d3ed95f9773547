/-
  The model's texts: spec.l1List, spec.l1Text, spec.FormatTerm.
-/
import Derived.Test.YteeafpnjpcgfaaaGreatText
import Derived.Test.YteeafpnjpcgfaaaGreatStepP
namespace Go.Proofs.YteeafpnjpcgfaaaGreat
open Go.RowKit

def sumS : List ByteArray → Nat
  | [] => 0
  | s :: L => s.size + sumS L
theorem kidS_le : ∀ (L : List ByteArray) (i : Nat), (kidS L i).size ≤ sumS L
  | [], i => by simp [kidS, ByteArray.size]
  | s :: L, 0 => by rw [sumS]; show s.size ≤ _; omega
  | s :: L, i + 1 => by
    have := kidS_le L i
    rw [sumS]
    show (kidS L i).size ≤ _
    omega
theorem kidS_two : ∀ (L : List ByteArray), (kidS L 0).size + (kidS L 1).size ≤ sumS L
  | [] => by simp [kidS, ByteArray.size]
  | [s] => by rw [sumS, sumS]; show s.size + (ByteArray.mk #[]).size ≤ _; have : (ByteArray.mk #[]).size = 0 := rfl; omega
  | s :: t :: L => by rw [sumS, sumS]; show s.size + t.size ≤ _; omega
theorem sumS_take : ∀ (L : List ByteArray) (q : Nat), sumS (L.take (q + 1)) = sumS (L.take q) + (kidS L q).size
  | [], q => by simp [kidS, sumS, ByteArray.size]
  | s :: L, 0 => by simp [sumS]; rfl
  | s :: L, q + 1 => by
    have := sumS_take L q
    rw [List.take_succ_cons, List.take_succ_cons, sumS, sumS, this]
    show _ = s.size + _ + (kidS L q).size
    omega
theorem sumS_take_le : ∀ (L : List ByteArray) (q : Nat), sumS (L.take q) ≤ sumS L
  | [], q => by simp
  | s :: L, 0 => by simp [sumS]
  | s :: L, q + 1 => by
    have := sumS_take_le L q
    rw [List.take_succ_cons, sumS, sumS]
    omega
theorem joinN_le (L : List ByteArray) : ∀ q, (joinN L q).size ≤ sumS (L.take q) + q
  | 0 => by rw [joinN]; simp [ByteArray.size]
  | q + 1 => by
    have h1 := joinN_le L q
    have h2 := sumS_take L q
    have h3 : (ByteArray.mk #[44]).size = 1 := rfl
    rw [joinN]
    split <;> simp only [ByteArray.size_append, h3] <;> omega
theorem ite_le_of (c : Prop) [Decidable c] (a b m : Nat) (h1 : a ≤ m) (h2 : b ≤ m) : (if c then a else b) ≤ m := by split <;> assumption
mutual
theorem Tm.txt_size : ∀ t : Tm, t.txt.size ≤ 8 * t.size
  | .mk k n l => by
    have hs := txtL_sum l
    have h0 := kidS_le (txtL l) 0
    have h1 := kidS_two (txtL l)
    have h3 := joinN_le (txtL l) 3
    have h4 := joinN_le (txtL l) 4
    have h5 := sumS_take_le (txtL l) 3
    have h6 := sumS_take_le (txtL l) 4
    have h2 := decS_size n.toNat
    have e1 : ∀ a : UInt8, (ByteArray.mk #[a]).size = 1 := fun _ => rfl
    have e2 : ∀ a b : UInt8, (ByteArray.mk #[a, b]).size = 2 := fun _ _ => rfl
    rw [Tm.txt, Tm.size]
    simp only [txtOf, apply_ite ByteArray.size, ByteArray.size_append, e1, e2]
    repeat' (first | refine ite_le_of _ _ _ _ ?_ ?_ | omega)
theorem txtL_sum : ∀ l : List Tm, sumS (txtL l) ≤ 8 * sizes l
  | [] => by rw [txtL, sumS]; omega
  | t :: l => by
    have h1 := Tm.txt_size t
    have h2 := txtL_sum l
    rw [txtL, sumS, sizes]
    omega
end

set_option maxRecDepth 100000 in
set_option maxHeartbeats 1600000 in
theorem list_any (l : List Tm) (hl : l.length ≤ 4) (hsz : sizes l ≤ 1000000)
    (hrec : ∀ i (hi : i < l.length) (w' : World) (s : Value), SlIn w' 0 l[i].kids s → Calls Tryz.prog 31 #[.agg #[.int .i64 l[i].kind, .int .i64 l[i].num, s]] w' (StrPost w' l[i].txt))
    (w : World) (v : Value) (hs : SlIn w 0 l v) : Calls Tryz.prog 59 #[v] w (StrPost w (joinN (txtL l) l.length)) := by
  obtain ⟨a, cap, b, o, rfl, hlm, hp, hc⟩ := hs.open
  have HREC := tuck hrec
  have HC := tuck hc
  have HPP := tuck hp
  have HP : Hid (∀ s w', s = joinN (txtL l) l.length → Below w.heap.size w w' → StrPost w (joinN (txtL l) l.length) (.returned (.string s)) w') := tuck fun s w' h hb => by rw [h]; exact ⟨rfl, hb⟩
  generalize StrPost w (joinN (txtL l) l.length) = post at *
  have HSUM := tuck (txtL_sum l)
  have HSZ := tuck hsz
  clear hs hrec hc hp hsz
  go_enter Tryz.func59, Tryz.ntmps59
  go_wp2_with fail
  go_loopw [3, 4] (fun out i wr => ∃ q : Nat, q ≤ l.length ∧ i = .int .i64 q ∧ out = .string (joinN (txtL l) q) ∧ Below w.heap.size w wr) (fun _ i _ => l.length - (intOf i).toNat)
  case atStart => exact ⟨0, Nat.zero_le _, rfl, rfl, Below.refl _ _⟩
  case round =>
    obtain ⟨q, hq, rfl, rfl, hb⟩ := hrel
    have HB := tuck hb
    clear hb
    by_cases hlt : q < l.length
    · have hlti : decide ((q : Int) < (l.length : Int)) = true := decide_eq_true (by omega)
      have hlti2 : (q : Int) < (l.length : Int) := by omega
      obtain ⟨rfl, _, hbw⟩ := HPP.out (by intro e; rw [e] at hlt; simp at hlt)
      obtain ⟨s, c0, c1, c2, hs⟩ := HC.out q hlt
      obtain ⟨sa, sc, rfl⟩ := hs.form
      have hjs : (joinN (txtL l) q).size ≤ 8000100 := by
        have h1 := joinN_le (txtL l) q
        have h2 := sumS_take_le (txtL l) q
        have h3 := HSUM.out
        have h4 := HSZ.out
        omega
      have hts : l[q].txt.size ≤ 8000100 := by
        have h1 := l[q].txt_size
        have h2 := size_get_le l q hlt
        have h4 := HSZ.out
        omega
      have HJ : Hid (joinN (txtL l) (q + 1) = (if 0 < q then joinN (txtL l) q ++ ByteArray.mk #[44] else joinN (txtL l) q) ++ l[q].txt) := tuck (by rw [joinN, kidS_txt l q hlt])
      have HK := tuck (fun w' s => HREC.out q hlt w' s)
      have HS := tuck hs
      have hbr : b < wr.heap.size := Nat.lt_of_lt_of_le hbw HB.out.size
      replace c0 := (HB.out.cell (p := ⟨b, o + q * 3, none⟩) hbw).trans c0
      replace c1 := (HB.out.cell (p := ⟨b, o + q * 3 + 1, none⟩) hbw).trans c1
      replace c2 := (HB.out.cell (p := ⟨b, o + q * 3 + 2, none⟩) hbw).trans c2
      clear hs
      generalize l[q] = T at *
      obtain ⟨J, hJ⟩ : ∃ J, J = joinN (txtL l) q := ⟨_, rfl⟩
      obtain ⟨X, hX⟩ : ∃ X, X = T.txt := ⟨_, rfl⟩
      rw [← hJ] at HJ hjs ⊢
      rw [← hX] at HJ HK hts
      clear hJ hX
      have z1 : ¬ (9223372036854775807 < J.size + 1) := by omega
      have z2 : ¬ (9223372036854775807 < J.size + 1 + X.size) := by omega
      have z3 : ¬ (9223372036854775807 < J.size + X.size) := by omega
      clear hjs hts
      by_cases hq0 : 0 < q
      · have hq0i : decide ((0 : Int) < (q : Int)) = true := decide_eq_true (by omega)
        have HJJ : Hid (joinN (txtL l) (q + 1) = J ++ ByteArray.mk #[44] ++ X) := tuck (by rw [HJ.out, if_pos hq0])
        clear HJ
        go_wp2_with fail
        refine (HK.out _ _ (HS.out.below HB.out)).mono ?_
        rintro e w2 ⟨rfl, hb2⟩
        have HB2 := tuck (bAfter HB.out hb2)
        clear hb2
        go_wp2_with fail
        go_roundw
        case rel => exact ⟨q + 1, by omega, by go_num, by rw [HJJ.out], HB2.out⟩
        case measure => simp [intOf]; omega
      · have hq0i : decide ((0 : Int) < (q : Int)) = false := decide_eq_false (by omega)
        have HJJ : Hid (joinN (txtL l) (q + 1) = J ++ X) := tuck (by rw [HJ.out, if_neg hq0])
        clear HJ
        go_wp2_with fail
        refine (HK.out _ _ (HS.out.below HB.out)).mono ?_
        rintro e w2 ⟨rfl, hb2⟩
        have HB2 := tuck (bAfter HB.out hb2)
        clear hb2
        go_wp2_with fail
        go_roundw
        case rel => exact ⟨q + 1, by omega, by go_num, by rw [HJJ.out], HB2.out⟩
        case measure => simp [intOf]; omega
    · have hlti : decide ((q : Int) < (l.length : Int)) = false := decide_eq_false (by omega)
      have hlti2 : ¬ (q : Int) < (l.length : Int) := by omega
      obtain rfl : q = l.length := by omega
      go_wp2_with fail
      exact HP.out _ _ rfl HB.out

end Go.Proofs.YteeafpnjpcgfaaaGreat
