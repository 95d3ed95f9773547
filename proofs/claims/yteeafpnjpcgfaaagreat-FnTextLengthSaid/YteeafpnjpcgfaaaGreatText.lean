/-
  The texts of terms in plain words ('Tm.txt'), and the model's FormatTerm.
-/
import Derived.Test.YteeafpnjpcgfaaaGreatSpecV
import Derived.Test.YteeafpnjpcgfaaaGreatTwo
import Derived.Test.YteeafpnjpcgfaaaGreatLawT
import Derived.Laws.IdiomStrings
namespace Go.Proofs.YteeafpnjpcgfaaaGreat
open Go.RowKit

/-- The decimal text of a number up to 99. -/
def decS (n : Nat) : ByteArray := if n ≤ 9 then ByteArray.mk #[UInt8.ofNat (48 + n)] else ByteArray.mk #[UInt8.ofNat (48 + n / 10), UInt8.ofNat (48 + n % 10)]
def kidS (L : List ByteArray) (i : Nat) : ByteArray := L.getD i (ByteArray.mk #[])
/-- The first texts, with commas between them. -/
def joinN (L : List ByteArray) : Nat → ByteArray
  | 0 => (ByteArray.mk #[])
  | q + 1 => (if 0 < q then joinN L q ++ (ByteArray.mk #[44]) else joinN L q) ++ kidS L q
def txtOf (k : Int) (n : Nat) (L : List ByteArray) : ByteArray :=
  if k = 1 then (ByteArray.mk #[35]) ++ decS n else if k = 2 then (ByteArray.mk #[42]) ++ decS n else if k = 6 then (ByteArray.mk #[78]) else if k = 7 then (ByteArray.mk #[48])
  else if k = 8 then (ByteArray.mk #[43]) ++ kidS L 0
  else if k = 11 then (ByteArray.mk #[33]) ++ kidS L 0
  else if k = 15 then (ByteArray.mk #[94]) ++ kidS L 0
  else if k = 16 then (ByteArray.mk #[95]) ++ kidS L 0
  else if k = 3 then (ByteArray.mk #[40]) ++ kidS L 0 ++ (ByteArray.mk #[62]) ++ kidS L 1 ++ (ByteArray.mk #[41])
  else if k = 13 then (ByteArray.mk #[40]) ++ kidS L 0 ++ (ByteArray.mk #[42]) ++ kidS L 1 ++ (ByteArray.mk #[41])
  else if k = 5 then (ByteArray.mk #[40]) ++ kidS L 0 ++ (ByteArray.mk #[32]) ++ kidS L 1 ++ (ByteArray.mk #[41])
  else if k = 4 then (ByteArray.mk #[91]) ++ kidS L 0 ++ (ByteArray.mk #[93]) ++ kidS L 1
  else if k = 10 then (ByteArray.mk #[123]) ++ joinN L 3 ++ (ByteArray.mk #[125])
  else if k = 14 then (ByteArray.mk #[124]) ++ joinN L 3 ++ (ByteArray.mk #[124])
  else if k = 12 then (ByteArray.mk #[64, 60]) ++ joinN L 3 ++ (ByteArray.mk #[62])
  else (ByteArray.mk #[60]) ++ joinN L 4 ++ (ByteArray.mk #[62])
mutual
/-- The text of a term. -/
def Tm.txt : Tm → ByteArray
  | .mk k n l => txtOf k n.toNat (txtL l)
def txtL : List Tm → List ByteArray
  | [] => []
  | t :: l => t.txt :: txtL l
end
theorem txtL_length : ∀ l : List Tm, (txtL l).length = l.length
  | [] => rfl
  | t :: l => by rw [txtL, List.length_cons, List.length_cons, txtL_length l]
theorem kidS_txt : ∀ (l : List Tm) (i : Nat) (h : i < l.length), kidS (txtL l) i = l[i].txt
  | t :: l, 0, h => by rw [txtL]; rfl
  | t :: l, i + 1, h => by
    have := kidS_txt l i (by simpa using h)
    rw [txtL]
    exact this
theorem decS_size (n : Nat) : (decS n).size ≤ 2 := by unfold decS; split <;> simp [ByteArray.size]
theorem joinN_size (L : List ByteArray) (m : Nat) (h : ∀ i, i < L.length → (kidS L i).size ≤ m) : ∀ q, q ≤ L.length → (joinN L q).size ≤ q * (m + 1)
  | 0, _ => by rw [joinN]; simp [ByteArray.size]
  | q + 1, hq => by
    have h1 := joinN_size L m h q (by omega)
    have h2 := h q (by omega)
    rw [joinN]
    have h3 : (ByteArray.mk #[44]).size = 1 := rfl
    rw [Nat.add_mul]
    split <;> simp only [ByteArray.size_append, h3] <;> omega

/-- What a function that answers a text leaves. -/
def StrPost (w : World) (s : ByteArray) (e : Ending) (w' : World) : Prop := e = .returned (.string s) ∧ Below w.heap.size w w'

theorem ba_empty (a : ByteArray) : a ++ ByteArray.mk #[] = a := by
  apply ByteArray.ext
  simp [ByteArray.data_append]
theorem ba_pair (x y : UInt8) : ByteArray.mk #[x] ++ ByteArray.mk #[y] = ByteArray.mk #[x, y] := by
  apply ByteArray.ext
  simp [ByteArray.data_append]
theorem byte_text (m : Nat) (hm : m ≤ 255) (W : World) : (convert 33 9 (.slice (some ⟨W.heap.size, 0, none⟩) 1 1)).run Tryz.prog (W.alloc (.cells #[.int .u8 m] 5)) = .ok (.string (ByteArray.mk #[UInt8.ofNat m])) (W.alloc (.cells #[.int .u8 m] 5)) := by
  have h := run_convert_bytes_back (P := Tryz.prog) (W.alloc (.cells #[.int .u8 m] 5)) 33 9 5 ⟨W.heap.size, 0, none⟩ 1 [UInt8.ofNat m] Tryz.underlying33 Tryz.underlying5 Tryz.underlying9 (fun j hj => by
    have hj0 : j = 0 := by simpa using hj
    subst hj0
    have e : (UInt8.ofNat m).toNat = m := by simp; omega
    simp only [List.getElem_cons_zero, e]
    show (W.alloc _).cell? ⟨W.heap.size, 0, none⟩ = _
    rw [World.cell?_alloc_new]
    rfl)
  exact h

set_option maxRecDepth 100000 in
set_option maxHeartbeats 1600000 in
theorem dec_any (n : Nat) (hn : n ≤ 99) (w : World) : Calls Tryz.prog 58 #[.int .i64 n] w (StrPost w (decS n)) := by
  have HP : Hid (∀ s w', s = decS n → Below w.heap.size w w' → StrPost w (decS n) (.returned (.string s)) w') := tuck fun s w' h hb => by rw [h]; exact ⟨rfl, hb⟩
  generalize StrPost w (decS n) = post at *
  have h1 : decide ((n : Int) < -9223372036854775807) = false := decide_eq_false (by omega)
  have h2 : decide ((n : Int) < 0) = false := decide_eq_false (by omega)
  have HT := tuck byte_text
  go_enter Tryz.func58, Tryz.ntmps58
  go_wp2_with fail
  go_loopw [0, 3] (fun m out wr => ∃ (k : Nat) (o : ByteArray), out = .string o ∧ m = .int .i64 k ∧ k ≤ n ∧ Below w.heap.size w wr ∧ ((k = n ∧ o = ByteArray.mk #[]) ∨ (9 < n ∧ k = n / 10 ∧ o = ByteArray.mk #[UInt8.ofNat (48 + n % 10)]))) (fun m _ _ => (intOf m).toNat)
  case atStart => exact ⟨n, _, rfl, rfl, Nat.le_refl _, Below.refl _ _, Or.inl ⟨rfl, rfl⟩⟩
  case round =>
    obtain ⟨k, o, rfl, rfl, hk, hb, hor⟩ := hrel
    have HB := tuck hb
    have HOR := tuck hor
    clear hb hor
    by_cases h9 : k ≤ 9
    · have h3 : decide ((9 : Int) < (k : Int)) = false := decide_eq_false (by omega)
      have hcv := HT.out (48 + k) (by omega) wr
      rw [show ((48 + k : Nat) : Int) = 48 + (k : Int) by omega] at hcv
      obtain ⟨c, hc⟩ : ∃ c, c = ByteArray.mk #[UInt8.ofNat (48 + k)] := ⟨_, rfl⟩
      rw [← hc] at hcv
      have hsz : ¬ (9223372036854775807 < c.size + o.size) := by
        have h1 : c.size = 1 := by rw [hc]; rfl
        have h2 : o.size ≤ 1 := by rcases HOR.out with ⟨_, rfl⟩ | ⟨_, _, rfl⟩ <;> simp [ByteArray.size]
        omega
      have HEND : Hid (∀ w', Below w.heap.size w w' → post (.returned (.string (c ++ o))) w') := tuck fun w' hb => HP.out _ w' (by
        rw [hc]
        rcases HOR.out with ⟨rfl, rfl⟩ | ⟨h10, rfl, rfl⟩
        · rw [ba_empty, decS, if_pos h9]
        · rw [ba_pair, decS, if_neg (by omega)]) hb
      clear hc
      go_wp2_with fail
      exact HEND.out _ (HB.out.alloc (HB.out.size) _)
    · have h3 : decide ((9 : Int) < (k : Int)) = true := decide_eq_true (by omega)
      have hcv := HT.out (48 + k % 10) (by omega) wr
      rw [show ((48 + k % 10 : Nat) : Int) = 48 + (k : Int) % 10 by omega] at hcv
      have HKN : Hid (k = n ∧ o = ByteArray.mk #[]) := tuck (by
        rcases HOR.out with h | ⟨h10, rfl, rfl⟩
        · exact h
        · omega)
      obtain ⟨c, hc⟩ : ∃ c, c = ByteArray.mk #[UInt8.ofNat (48 + k % 10)] := ⟨_, rfl⟩
      rw [← hc] at hcv
      have hsz : ¬ (9223372036854775807 < c.size + o.size) := by
        have h1 : c.size = 1 := by rw [hc]; rfl
        have h2 : o.size ≤ 1 := by rcases HOR.out with ⟨_, rfl⟩ | ⟨_, _, rfl⟩ <;> simp [ByteArray.size]
        omega
      have HC := tuck hc
      clear HOR hc
      go_wp2_with fail
      go_roundw
      case rel =>
        obtain ⟨rfl, rfl⟩ := HKN.out
        exact ⟨k / 10, _, rfl, by go_num, by omega, HB.out.alloc (HB.out.size) _, Or.inr ⟨by omega, rfl, by rw [HC.out]; exact ba_empty _⟩⟩
      case measure => simp [intOf]; omega

end Go.Proofs.YteeafpnjpcgfaaaGreat
