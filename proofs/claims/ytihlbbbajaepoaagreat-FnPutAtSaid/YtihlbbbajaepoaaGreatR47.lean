/-
  Text, TextB.
-/
import Derived.Test.YtihlbbbajaepoaaGreatR02
import Derived.Test.YtihlbbbajaepoaaGreatR08
import Derived.Test.YtihlbbbajaepoaaGreatR16
import Derived.Test.YtihlbbbajaepoaaGreatR17
import Derived.Laws.IdiomStrings
namespace Go.Proofs.YtihlbbbajaepoaaGreat
open Go.RowKit
def decS (n : Nat) : ByteArray := if n ≤ 9 then ByteArray.mk #[UInt8.ofNat (48 + n)] else ByteArray.mk #[UInt8.ofNat (48 + n / 10), UInt8.ofNat (48 + n % 10)]
def kidS (L : List ByteArray) (i : Nat) : ByteArray := L.getD i (ByteArray.mk #[])
def joinN (L : List ByteArray) : Nat → ByteArray
 | 0 => (ByteArray.mk #[])
 | q + 1 => (if 0 < q then joinN L q ++ (ByteArray.mk #[44]) else joinN L q) ++ kidS L q
def txtOf (k : Int) (n : Nat) (L : List ByteArray) : ByteArray :=
 if k = 1 then (ByteArray.mk #[35]) ++ decS n else if k = 2 then (ByteArray.mk #[42]) ++ decS n else if k = 6 then (ByteArray.mk #[78]) else if k = 7 then (ByteArray.mk #[48])
 else if k = 8 then (ByteArray.mk #[43]) ++ kidS L 0
 else if k = 11 then (ByteArray.mk #[33]) ++ kidS L 0
 else if k = 15 then (ByteArray.mk #[94]) ++ kidS L 0
 else if k = 16 then (ByteArray.mk #[95]) ++ kidS L 0
 else if k = 3 then (ByteArray.mk #[40]) ++ kidS L 0 ++ (ByteArray.mk #[62]) ++ kidS L 1 ++ (ByteArray.mk #[41])
 else if k = 13 then (ByteArray.mk #[40]) ++ kidS L 0 ++ (ByteArray.mk #[42]) ++ kidS L 1 ++ (ByteArray.mk #[41])
 else if k = 5 then (ByteArray.mk #[40]) ++ kidS L 0 ++ (ByteArray.mk #[32]) ++ kidS L 1 ++ (ByteArray.mk #[41])
 else if k = 4 then (ByteArray.mk #[91]) ++ kidS L 0 ++ (ByteArray.mk #[93]) ++ kidS L 1
 else if k = 10 then (ByteArray.mk #[123]) ++ joinN L 3 ++ (ByteArray.mk #[125])
 else if k = 14 then (ByteArray.mk #[124]) ++ joinN L 3 ++ (ByteArray.mk #[124])
 else if k = 12 then (ByteArray.mk #[64, 60]) ++ joinN L 3 ++ (ByteArray.mk #[62])
 else (ByteArray.mk #[60]) ++ joinN L 4 ++ (ByteArray.mk #[62])
mutual
def Tm.txt : Tm → ByteArray
 | .mk k n l => txtOf k n.toNat (txtL l)
def txtL : List Tm → List ByteArray
 | [] => []
 | t :: l => t.txt :: txtL l
end
theorem kidS_txt : ∀ (l : List Tm) (i : Nat) (h : i < l.length), kidS (txtL l) i = l[i].txt
 | t :: l, 0, h => by rw [txtL]; rfl
 | t :: l, i + 1, h => by
  have := kidS_txt l i (by simpa using h)
  rw [txtL]
  exact this
theorem decS_size (n : Nat) : (decS n).size ≤ 2 := by unfold decS; split <;> simp [ByteArray.size]
def StrPost (w : World) (s : ByteArray) (e : Ending) (w' : World) : Prop := e = .returned (.string s) ∧ Below w.heap.size w w'
theorem ba_empty (a : ByteArray) : a ++ ByteArray.mk #[] = a := by
 apply ByteArray.ext
 simp [ByteArray.data_append]
theorem ba_pair (x y : UInt8) : ByteArray.mk #[x] ++ ByteArray.mk #[y] = ByteArray.mk #[x, y] := by
 apply ByteArray.ext
 simp [ByteArray.data_append]
theorem byte_text (m : Nat) (hm : m ≤ 255) (W : World) : (convert 43 9 (.slice (some ⟨W.heap.size, 0, none⟩) 1 1)).run Tryz.prog (W.alloc (.cells #[.int .u8 m] 5)) = .ok (.string (ByteArray.mk #[UInt8.ofNat m])) (W.alloc (.cells #[.int .u8 m] 5)) := by
 have h := run_convert_bytes_back (P := Tryz.prog) (W.alloc (.cells #[.int .u8 m] 5)) 43 9 5 ⟨W.heap.size, 0, none⟩ 1 [UInt8.ofNat m] Tryz.underlying43 Tryz.underlying5 Tryz.underlying9 (fun j hj => by
  have hj0 : j = 0 := by simpa using hj
  subst hj0
  have e : (UInt8.ofNat m).toNat = m := by simp; omega
  simp only [List.getElem_cons_zero, e]
  show (W.alloc _).cell? ⟨W.heap.size, 0, none⟩ = _
  rw [World.cell?_alloc_new]
  rfl)
 exact h
set_option maxRecDepth 100000 in
set_option maxHeartbeats 1600000 in
theorem dec_any (n : Nat) (hn : n ≤ 99) (w : World) : Calls Tryz.prog 158 #[.int .i64 n] w (StrPost w (decS n)) := by
 have HP : Hid (∀ s w', s = decS n → Below w.heap.size w w' → StrPost w (decS n) (.returned (.string s)) w') := tuck fun s w' h hb => by rw [h]; exact ⟨rfl, hb⟩
 generalize StrPost w (decS n) = post at *
 have h1 : decide ((n : Int) < -9223372036854775807) = false := decide_eq_false (by omega)
 have h2 : decide ((n : Int) < 0) = false := decide_eq_false (by omega)
 have HT := tuck byte_text
 go_enter Tryz.func158, Tryz.ntmps158
 go_wp2_with fail
 go_loopw [0, 3] (fun m out wr => ∃ (k : Nat) (o : ByteArray), out = .string o ∧ m = .int .i64 k ∧ k ≤ n ∧ Below w.heap.size w wr ∧ ((k = n ∧ o = ByteArray.mk #[]) ∨ (9 < n ∧ k = n / 10 ∧ o = ByteArray.mk #[UInt8.ofNat (48 + n % 10)]))) (fun m _ _ => (intOf m).toNat)
 case atStart => exact ⟨n, _, rfl, rfl, Nat.le_refl _, Below.refl _ _, Or.inl ⟨rfl, rfl⟩⟩
 case round =>
  obtain ⟨k, o, rfl, rfl, hk, hb, hor⟩ := hrel
  have HB := tuck hb
  have HOR := tuck hor
  clear hb hor
  by_cases h9 : k ≤ 9
  ·have h3 : decide ((9 : Int) < (k : Int)) = false := decide_eq_false (by omega)
   have hcv := HT.out (48 + k) (by omega) wr
   rw [show ((48 + k : Nat) : Int) = 48 + (k : Int) by omega] at hcv
   obtain ⟨c, hc⟩ : ∃ c, c = ByteArray.mk #[UInt8.ofNat (48 + k)] := ⟨_, rfl⟩
   rw [← hc] at hcv
   have hsz : ¬ (9223372036854775807 < c.size + o.size) := by
    have h1 : c.size = 1 := by rw [hc]; rfl
    have h2 : o.size ≤ 1 := by rcases HOR.out with ⟨_, rfl⟩ | ⟨_, _, rfl⟩ <;> simp [ByteArray.size]
    omega
   have HEND : Hid (∀ w', Below w.heap.size w w' → post (.returned (.string (c ++ o))) w') := tuck fun w' hb => HP.out _ w' (by
    rw [hc]
    rcases HOR.out with ⟨rfl, rfl⟩ | ⟨h10, rfl, rfl⟩
    ·rw [ba_empty, decS, if_pos h9]
    ·rw [ba_pair, decS, if_neg (by omega)]) hb
   clear hc
   go_wp2_with fail
   exact HEND.out _ (HB.out.alloc (HB.out.size) _)
  ·have h3 : decide ((9 : Int) < (k : Int)) = true := decide_eq_true (by omega)
   have hcv := HT.out (48 + k % 10) (by omega) wr
   rw [show ((48 + k % 10 : Nat) : Int) = 48 + (k : Int) % 10 by omega] at hcv
   have HKN : Hid (k = n ∧ o = ByteArray.mk #[]) := tuck (by
    rcases HOR.out with h | ⟨h10, rfl, rfl⟩
    ·exact h
    ·omega)
   obtain ⟨c, hc⟩ : ∃ c, c = ByteArray.mk #[UInt8.ofNat (48 + k % 10)] := ⟨_, rfl⟩
   rw [← hc] at hcv
   have hsz : ¬ (9223372036854775807 < c.size + o.size) := by
    have h1 : c.size = 1 := by rw [hc]; rfl
    have h2 : o.size ≤ 1 := by rcases HOR.out with ⟨_, rfl⟩ | ⟨_, _, rfl⟩ <;> simp [ByteArray.size]
    omega
   have HC := tuck hc
   clear HOR hc
   go_wp2_with fail
   go_roundw
   case rel =>
    obtain ⟨rfl, rfl⟩ := HKN.out
    exact ⟨k / 10, _, rfl, by go_num, by omega, HB.out.alloc (HB.out.size) _, Or.inr ⟨by omega, rfl, by rw [HC.out]; exact ba_empty _⟩⟩
   case measure => simp [intOf]; omega
end Go.Proofs.YtihlbbbajaepoaaGreat
namespace Go.Proofs.YtihlbbbajaepoaaGreat
open Go.RowKit
def sumS : List ByteArray → Nat
 | [] => 0
 | s :: L => s.size + sumS L
theorem kidS_le : ∀ (L : List ByteArray) (i : Nat), (kidS L i).size ≤ sumS L
 | [], i => by simp [kidS, ByteArray.size]
 | s :: L, 0 => by rw [sumS]; show s.size ≤ _; omega
 | s :: L, i + 1 => by
  have := kidS_le L i
  rw [sumS]
  show (kidS L i).size ≤ _
  omega
theorem kidS_two : ∀ (L : List ByteArray), (kidS L 0).size + (kidS L 1).size ≤ sumS L
 | [] => by simp [kidS, ByteArray.size]
 | [s] => by rw [sumS, sumS]; show s.size + (ByteArray.mk #[]).size ≤ _; have : (ByteArray.mk #[]).size = 0 := rfl; omega
 | s :: t :: L => by rw [sumS, sumS]; show s.size + t.size ≤ _; omega
theorem sumS_take : ∀ (L : List ByteArray) (q : Nat), sumS (L.take (q + 1)) = sumS (L.take q) + (kidS L q).size
 | [], q => by simp [kidS, sumS, ByteArray.size]
 | s :: L, 0 => by simp [sumS]; rfl
 | s :: L, q + 1 => by
  have := sumS_take L q
  rw [List.take_succ_cons, List.take_succ_cons, sumS, sumS, this]
  show _ = s.size + _ + (kidS L q).size
  omega
theorem sumS_take_le : ∀ (L : List ByteArray) (q : Nat), sumS (L.take q) ≤ sumS L
 | [], q => by simp
 | s :: L, 0 => by simp [sumS]
 | s :: L, q + 1 => by
  have := sumS_take_le L q
  rw [List.take_succ_cons, sumS, sumS]
  omega
theorem joinN_le (L : List ByteArray) : ∀ q, (joinN L q).size ≤ sumS (L.take q) + q
 | 0 => by rw [joinN]; simp [ByteArray.size]
 | q + 1 => by
  have h1 := joinN_le L q
  have h2 := sumS_take L q
  have h3 : (ByteArray.mk #[44]).size = 1 := rfl
  rw [joinN]
  split <;> simp only [ByteArray.size_append, h3] <;> omega
theorem ite_le_of (c : Prop) [Decidable c] (a b m : Nat) (h1 : a ≤ m) (h2 : b ≤ m) : (if c then a else b) ≤ m := by split <;> assumption
mutual
theorem Tm.txt_size : ∀ t : Tm, t.txt.size ≤ 8 * t.size
 | .mk k n l => by
  have hs := txtL_sum l
  have h0 := kidS_le (txtL l) 0
  have h1 := kidS_two (txtL l)
  have h3 := joinN_le (txtL l) 3
  have h4 := joinN_le (txtL l) 4
  have h5 := sumS_take_le (txtL l) 3
  have h6 := sumS_take_le (txtL l) 4
  have h2 := decS_size n.toNat
  have e1 : ∀ a : UInt8, (ByteArray.mk #[a]).size = 1 := fun _ => rfl
  have e2 : ∀ a b : UInt8, (ByteArray.mk #[a, b]).size = 2 := fun _ _ => rfl
  rw [Tm.txt, Tm.size]
  simp only [txtOf, apply_ite ByteArray.size, ByteArray.size_append, e1, e2]
  repeat' (first | refine ite_le_of _ _ _ _ ?_ ?_ | omega)
theorem txtL_sum : ∀ l : List Tm, sumS (txtL l) ≤ 8 * sizes l
 | [] => by rw [txtL, sumS]; omega
 | t :: l => by
  have h1 := Tm.txt_size t
  have h2 := txtL_sum l
  rw [txtL, sumS, sizes]
  omega
end
set_option maxRecDepth 100000 in
set_option maxHeartbeats 1600000 in
theorem list_any (l : List Tm) (hl : l.length ≤ 4) (hsz : sizes l ≤ 1000000)
  (hrec : ∀ i (hi : i < l.length) (w' : World) (s : Value), SlIn w' 0 l[i].kids s → Calls Tryz.prog 150 #[.agg #[.int .i64 l[i].kind, .int .i64 l[i].num, s]] w' (StrPost w' l[i].txt))
  (w : World) (v : Value) (hs : SlIn w 0 l v) : Calls Tryz.prog 159 #[v] w (StrPost w (joinN (txtL l) l.length)) := by
 obtain ⟨a, cap, b, o, rfl, hlm, hp, hc⟩ := hs.open
 have HREC := tuck hrec
 have HC := tuck hc
 have HPP := tuck hp
 have HP : Hid (∀ s w', s = joinN (txtL l) l.length → Below w.heap.size w w' → StrPost w (joinN (txtL l) l.length) (.returned (.string s)) w') := tuck fun s w' h hb => by rw [h]; exact ⟨rfl, hb⟩
 generalize StrPost w (joinN (txtL l) l.length) = post at *
 have HSUM := tuck (txtL_sum l)
 have HSZ := tuck hsz
 clear hs hrec hc hp hsz
 go_enter Tryz.func159, Tryz.ntmps159
 go_wp2_with fail
 go_loopw [3, 4] (fun out i wr => ∃ q : Nat, q ≤ l.length ∧ i = .int .i64 q ∧ out = .string (joinN (txtL l) q) ∧ Below w.heap.size w wr) (fun _ i _ => l.length - (intOf i).toNat)
 case atStart => exact ⟨0, Nat.zero_le _, rfl, rfl, Below.refl _ _⟩
 case round =>
  obtain ⟨q, hq, rfl, rfl, hb⟩ := hrel
  have HB := tuck hb
  clear hb
  by_cases hlt : q < l.length
  ·have hlti : decide ((q : Int) < (l.length : Int)) = true := decide_eq_true (by omega)
   have hlti2 : (q : Int) < (l.length : Int) := by omega
   obtain ⟨rfl, _, hbw⟩ := HPP.out (by intro e; rw [e] at hlt; simp at hlt)
   obtain ⟨s, c0, c1, c2, hs⟩ := HC.out q hlt
   obtain ⟨sa, sc, rfl⟩ := hs.form
   have hjs : (joinN (txtL l) q).size ≤ 8000100 := by
    have h1 := joinN_le (txtL l) q
    have h2 := sumS_take_le (txtL l) q
    have h3 := HSUM.out
    have h4 := HSZ.out
    omega
   have hts : l[q].txt.size ≤ 8000100 := by
    have h1 := l[q].txt_size
    have h2 := size_get_le l q hlt
    have h4 := HSZ.out
    omega
   have HJ : Hid (joinN (txtL l) (q + 1) = (if 0 < q then joinN (txtL l) q ++ ByteArray.mk #[44] else joinN (txtL l) q) ++ l[q].txt) := tuck (by rw [joinN, kidS_txt l q hlt])
   have HK := tuck (fun w' s => HREC.out q hlt w' s)
   have HS := tuck hs
   have hbr : b < wr.heap.size := Nat.lt_of_lt_of_le hbw HB.out.size
   replace c0 := (HB.out.cell (p := ⟨b, o + q * 3, none⟩) hbw).trans c0
   replace c1 := (HB.out.cell (p := ⟨b, o + q * 3 + 1, none⟩) hbw).trans c1
   replace c2 := (HB.out.cell (p := ⟨b, o + q * 3 + 2, none⟩) hbw).trans c2
   clear hs
   generalize l[q] = T at *
   obtain ⟨J, hJ⟩ : ∃ J, J = joinN (txtL l) q := ⟨_, rfl⟩
   obtain ⟨X, hX⟩ : ∃ X, X = T.txt := ⟨_, rfl⟩
   rw [← hJ] at HJ hjs ⊢
   rw [← hX] at HJ HK hts
   clear hJ hX
   have z1 : ¬ (9223372036854775807 < J.size + 1) := by omega
   have z2 : ¬ (9223372036854775807 < J.size + 1 + X.size) := by omega
   have z3 : ¬ (9223372036854775807 < J.size + X.size) := by omega
   clear hjs hts
   by_cases hq0 : 0 < q
   ·have hq0i : decide ((0 : Int) < (q : Int)) = true := decide_eq_true (by omega)
    have HJJ : Hid (joinN (txtL l) (q + 1) = J ++ ByteArray.mk #[44] ++ X) := tuck (by rw [HJ.out, if_pos hq0])
    clear HJ
    go_wp2_with fail
    refine (HK.out _ _ (HS.out.below HB.out)).mono ?_
    rintro e w2 ⟨rfl, hb2⟩
    have HB2 := tuck (bAfter HB.out hb2)
    clear hb2
    go_wp2_with fail
    go_roundw
    case rel => exact ⟨q + 1, by omega, by go_num, by rw [HJJ.out], HB2.out⟩
    case measure => simp [intOf]; omega
   ·have hq0i : decide ((0 : Int) < (q : Int)) = false := decide_eq_false (by omega)
    have HJJ : Hid (joinN (txtL l) (q + 1) = J ++ X) := tuck (by rw [HJ.out, if_neg hq0])
    clear HJ
    go_wp2_with fail
    refine (HK.out _ _ (HS.out.below HB.out)).mono ?_
    rintro e w2 ⟨rfl, hb2⟩
    have HB2 := tuck (bAfter HB.out hb2)
    clear hb2
    go_wp2_with fail
    go_roundw
    case rel => exact ⟨q + 1, by omega, by go_num, by rw [HJJ.out], HB2.out⟩
    case measure => simp [intOf]; omega
  ·have hlti : decide ((q : Int) < (l.length : Int)) = false := decide_eq_false (by omega)
   have hlti2 : ¬ (q : Int) < (l.length : Int) := by omega
   obtain rfl : q = l.length := by omega
   go_wp2_with fail
   exact HP.out _ _ rfl HB.out
end Go.Proofs.YtihlbbbajaepoaaGreat
