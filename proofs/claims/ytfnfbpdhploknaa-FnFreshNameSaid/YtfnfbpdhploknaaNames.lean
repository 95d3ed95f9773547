/-
  Lists of names: the program's linked list and the model's string.
-/
import Derived.Test.YtfnfbpdhploknaaBase
import Derived.Test.YtfnfbpdhploknaaProg
import Derived.WalkSpells
import Derived.ProofKit
import Derived.Deep.QuietTactic
import Derived.BigQuiet
import Derived.Laws.IdiomStrings
namespace Go.Proofs.Ytfnfbpdhploknaa
open Go.RowKit
set_option linter.unusedVariables false

def ltr (c : Int) : Bool := decide (97 ≤ c ∧ c ≤ 122)
/-- How far in a list a name is. -/
def nfind : List Int → Int → Option Nat
  | [], _ => none
  | x :: r, c => if x = c then some 0 else (nfind r c).map (· + 1)
def good : List Int → Bool
  | [] => true
  | x :: r => good r && (ltr x && (nfind r x).isNone)
/-- The first i bytes of a text, the last one first. -/
def bl (s : ByteArray) : Nat → List Int
  | 0 => []
  | i + 1 => (if h : i < s.size then (s[i].toNat : Int) else 0) :: bl s i
theorem bl_length (s : ByteArray) : ∀ i, (bl s i).length = i
  | 0 => rfl
  | i + 1 => by rw [bl, List.length_cons, bl_length s i]
theorem bl_extract (s : ByteArray) (n : Nat) (hn : n ≤ s.size) : ∀ i, i ≤ n → bl (s.extract 0 n) i = bl s i
  | 0, _ => rfl
  | i + 1, h => by
    have h1 : i < (s.extract 0 n).size := by rw [ByteArray.size_extract]; omega
    have h2 : i < s.size := by omega
    rw [bl, bl, dif_pos h1, dif_pos h2, bl_extract s n hn i (by omega), ByteArray.getElem_extract]
    congr 3
    simp
def frs (L : List Int) : Nat → Nat → Nat
  | 0, k => k
  | f + 1, k => if (nfind L (97 + k)).isNone then k else frs L f (k + 1)
/-- The first letter that is not in a list. -/
def freshN (L : List Int) : Nat := frs L 26 0
theorem frs_spec (L : List Int) : ∀ f k, k ≤ frs L f k ∧ frs L f k ≤ k + f ∧ (∀ j, k ≤ j → j < frs L f k → (nfind L (97 + j)).isNone = false) ∧ (frs L f k < k + f → (nfind L (97 + frs L f k)).isNone = true)
  | 0, k => ⟨Nat.le_refl _, Nat.le_refl _, fun j h1 h2 => by rw [frs] at h2; omega, fun h => by rw [frs] at h; omega⟩
  | f + 1, k => by
    rw [frs]
    split
    · rename_i h
      exact ⟨Nat.le_refl _, by omega, fun j h1 h2 => by omega, fun _ => h⟩
    · rename_i h
      obtain ⟨h1, h2, h3, h4⟩ := frs_spec L f (k + 1)
      refine ⟨by omega, by omega, fun j g1 g2 => ?_, fun g => h4 (by omega)⟩
      rcases Nat.eq_or_lt_of_le g1 with e | e
      · subst e; exact Bool.eq_false_iff.2 h
      · exact h3 j e g2
theorem freshN_le (L : List Int) : freshN L ≤ 26 := by have := (frs_spec L 26 0).2.1; unfold freshN; omega
theorem freshN_used {L : List Int} {j : Nat} (h : j < freshN L) : (nfind L (97 + j)).isNone = false := (frs_spec L 26 0).2.2.1 j (Nat.zero_le _) h
theorem freshN_free {L : List Int} (h : freshN L < 26) : (nfind L (97 + freshN L)).isNone = true := (frs_spec L 26 0).2.2.2 (by unfold freshN at h; omega)
theorem freshN_of {L : List Int} {k : Nat} (hk : k ≤ 26) (h1 : ∀ j, j < k → (nfind L (97 + j)).isNone = false) (h2 : k < 26 → (nfind L (97 + k)).isNone = true) : freshN L = k := by
  rcases Nat.lt_trichotomy (freshN L) k with h | h | h
  · have a := h1 _ h
    have b := freshN_free (L := L) (by omega)
    rw [a] at b; cases b
  · exact h
  · have a := freshN_used h
    have b := h2 (by have := freshN_le L; omega)
    rw [a] at b; cases b
theorem nfind_mem : ∀ (L : List Int) (c : Int), (nfind L c).isNone = false ↔ c ∈ L
  | [], c => by simp [nfind]
  | x :: r, c => by
    rw [nfind, List.mem_cons]
    by_cases h : x = c
    · simp [h]
    · rw [if_neg h]
      have := nfind_mem r c
      rw [Option.isNone_map, this]
      exact ⟨Or.inr, fun g => g.resolve_left fun e => h e.symm⟩
theorem many_of_all : ∀ (n : Nat) (L : List Int), (∀ j : Nat, j < n → (97 + (j : Int)) ∈ L) → n ≤ L.length
  | 0, _, _ => Nat.zero_le _
  | n + 1, L, h => by
    have h0 := h n (Nat.lt_succ_self n)
    have := many_of_all n (L.erase (97 + (n : Int))) fun j hj => (List.mem_erase_of_ne (by omega)).2 (h j (by omega))
    rw [List.length_erase_of_mem h0] at this
    have := List.length_pos_of_mem h0
    omega
theorem freshN_lt {L : List Int} (h : L.length ≤ 25) : freshN L < 26 := by
  by_cases e : freshN L < 26
  · exact e
  · have := many_of_all 26 L fun j hj => (nfind_mem _ _).1 (freshN_used (by omega))
    omega
theorem nfind_lt : ∀ {L : List Int} {c : Int} {n : Nat}, nfind L c = some n → n < L.length
  | [], _, _, h => by simp [nfind] at h
  | x :: r, c, n, h => by
    rw [nfind] at h
    split at h
    · simp at h; subst h; simp
    · cases hr : nfind r c with
      | none => rw [hr] at h; simp at h
      | some m =>
        rw [hr] at h
        simp at h
        have := nfind_lt hr
        simp
        omega
theorem good_bl {s : ByteArray} : ∀ {n i : Nat}, i ≤ n → good (bl s n) = true → good (bl s i) = true
  | 0, i, h, g => by obtain rfl : i = 0 := by omega
                     exact g
  | n + 1, i, h, g => by
    rcases Nat.lt_or_ge i (n + 1) with e | e
    · rw [bl, good] at g
      simp only [Bool.and_eq_true] at g
      exact good_bl (by omega) g.1
    · obtain rfl : i = n + 1 := by omega
      exact g
/-- Whether a text is a list of names. -/
def nameOk (s : ByteArray) : Bool := good (bl s s.size) && decide (s.size ≤ 20)

/-- The program's list of names. -/
def NL (w : World) : List Int → Value → Prop
  | [], p => p = .pointer none
  | c :: r, p => ∃ (g : Nat) (q : Option Addr), p = .pointer (some ⟨g, 0, none⟩) ∧ w.heap[g]? = some (.cells #[.int .u8 c, .pointer q] 48 (0, 0)) ∧ NL w r (.pointer q)
theorem NL.below {w w' : World} (hb : Below w.heap.size w w') : ∀ {L : List Int} {p : Value}, NL w L p → NL w' L p
  | [], _, h => h
  | c :: r, _, ⟨g, q, rfl, h, hr⟩ => ⟨g, q, rfl, (hb.block g (block_of_cells h).1).trans h, NL.below hb hr⟩
theorem NL.form {w : World} : ∀ {L : List Int} {p : Value}, NL w L p → ∃ q, p = .pointer q
  | [], _, h => ⟨none, h⟩
  | _ :: _, _, ⟨g, _, h, _⟩ => ⟨_, h⟩
theorem NL.nil {w : World} : NL w [] (.pointer none) := rfl
theorem NL.cons {w : World} {c : Int} {L : List Int} {q : Option Addr} (h : NL w L (.pointer q)) : NL (w.alloc (.cells #[.int .u8 c, .pointer q] 48)) (c :: L) (.pointer (some ⟨w.heap.size, 0, none⟩)) :=
  ⟨_, q, rfl, heap_new _ _, h.below (below1 _ _)⟩

def SameW (w : World) (v : Value) (e : Ending) (w' : World) : Prop := e = .returned v ∧ w' = w

theorem isName_any (c : Int) (w : World) (h0 : 0 ≤ c) (h1 : c ≤ 255) : Calls Try.prog 21 #[.int .u8 c] w (SameW w (.bool (ltr c))) := by
  have HP : Hid (∀ v, v = ltr c → SameW w (.bool (ltr c)) (.returned (.bool v)) w) := tuck fun v h => by rw [h]; exact ⟨rfl, rfl⟩
  generalize SameW w (.bool (ltr c)) = post at *
  by_cases ha : 97 ≤ c
  · have ha' : decide (97 ≤ c) = true := decide_eq_true ha
    go_enter Try.func21, Try.ntmps21
    go_wp2
    exact HP.out _ (by unfold ltr; simp [ha])
  · have ha' : decide (97 ≤ c) = false := decide_eq_false ha
    go_enter Try.func21, Try.ntmps21
    go_wp2
    exact HP.out _ (by unfold ltr; simp; omega)

theorem letter_any (c : Int) (w : World) (h0 : 0 ≤ c) (h1 : c ≤ 255) : Calls Try.prog 17 #[.int .u8 c] w (SameW w (.bool (ltr c))) := by
  have HP : Hid (∀ v, v = ltr c → SameW w (.bool (ltr c)) (.returned (.bool v)) w) := tuck fun v h => by rw [h]; exact ⟨rfl, rfl⟩
  generalize SameW w (.bool (ltr c)) = post at *
  by_cases ha : 97 ≤ c
  · have ha' : decide (97 ≤ c) = true := decide_eq_true ha
    go_enter Try.func17, Try.ntmps17
    go_wp2
    exact HP.out _ (by unfold ltr; simp [ha])
  · have ha' : decide (97 ≤ c) = false := decide_eq_false ha
    go_enter Try.func17, Try.ntmps17
    go_wp2
    exact HP.out _ (by unfold ltr; simp; omega)

def fpair : Option Nat → Value
  | some n => .tuple #[.int .i64 n, .bool true]
  | none => .tuple #[.int .i64 0, .bool false]

set_option maxRecDepth 100000 in
theorem find_any (L : List Int) (c : Int) (q : Option Addr) (w : World) (hL : L.length ≤ 1000) (h : NL w L (.pointer q)) : Calls Try.prog 20 #[.pointer q, .int .u8 c] w (SameW w (fpair (nfind L c))) := by
  have HP : Hid (∀ o v, o = nfind L c → v = fpair o → SameW w (fpair (nfind L c)) (.returned v) w) := tuck fun o v h1 h2 => by rw [h2, h1]; exact ⟨rfl, rfl⟩
  generalize SameW w (fpair (nfind L c)) = post at *
  have HL := tuck hL
  have HH := tuck h
  clear hL h
  go_enter Try.func20, Try.ntmps20
  go_wp2_with fail
  go_loop [0, 6] (fun l n => ∃ (r : List Int) (q : Option Addr) (k : Nat), l = .pointer q ∧ n = .int .i64 k ∧ NL w r (.pointer q) ∧ k + r.length = L.length ∧ nfind L c = (nfind r c).map (· + k)) (fun _ n => 1000 - (intOf n).toNat)
  case atStart => exact ⟨L, q, 0, rfl, rfl, HH.out, by omega, by simp⟩
  case round =>
    obtain ⟨r, q, k, rfl, rfl, hr, hk, he⟩ := hrel
    have hL := HL.out
    match r, hr with
    | [], hr =>
      have : q = none := by have := hr; simp [NL] at this; exact this
      subst this
      have HE : Hid (nfind L c = none) := tuck (by rw [he]; rfl)
      clear he hk hL hr
      go_wp2_with fail
      exact HP.out none _ HE.out.symm rfl
    | x :: r, hr =>
      obtain ⟨g, q', hq, hg, hr'⟩ := hr
      injection hq with hq
      subst hq
      obtain ⟨hgs, hc, hf⟩ := block_of_cells hg
      have c0 := hc 0
      have c1 := hc 1
      simp at c0 c1
      rw [List.length_cons] at hk
      have HR := tuck hr'
      clear hr' hc hf hg
      by_cases hx : x = c
      · have hxb : (x == c) = true := by simpa using hx
        have HE : Hid (nfind L c = some k) := tuck (by rw [he, nfind, if_pos hx]; simp)
        clear he hx
        go_wp2_with fail
        exact HP.out (some k) _ HE.out.symm rfl
      · have hxb : (x == c) = false := by simpa using hx
        have HE : Hid (nfind L c = (nfind r c).map (· + (k + 1))) := tuck (by
          rw [he, nfind, if_neg hx, Option.map_map]
          congr 1
          funext m
          simp; omega)
        clear he hx
        have HK := tuck hk
        clear hk
        have hkb : k ≤ 1000 := by have := HK.out; omega
        go_wp2_with fail
        go_round
        case rel => exact ⟨r, q', k + 1, rfl, by go_num, HR.out, by have := HK.out; omega, HE.out⟩
        case measure => (simp [intOf]; have := HK.out; omega)

theorem with_any (L : List Int) (c : Int) (q : Option Addr) (w : World) : Calls Try.prog 22 #[.pointer q, .int .u8 c] w (fun e w' => e = .returned (.pointer (some ⟨w.heap.size, 0, none⟩)) ∧ w' = w.alloc (.cells #[.int .u8 c, .pointer q] 48)) := by
  go_enter Try.func22, Try.ntmps22
  go_wp2
  go_ret
  exact ⟨rfl, rfl⟩

def frPair (k : Nat) : Value := if k < 26 then .tuple #[.int .u8 (97 + (k : Int)), .bool true] else .tuple #[.int .u8 0, .bool false]

set_option maxRecDepth 100000 in
theorem freshI_any (L : List Int) (q : Option Addr) (w : World) (hL : L.length ≤ 1000) (h : NL w L (.pointer q)) : Calls Try.prog 15 #[.pointer q] w (SameW w (frPair (freshN L))) := by
  have HP : Hid (∀ v, v = frPair (freshN L) → SameW w (frPair (freshN L)) (.returned v) w) := tuck fun v h => by rw [h]; exact ⟨rfl, rfl⟩
  generalize SameW w (frPair (freshN L)) = post at *
  have HF := tuck fun c => find_any L c q w hL h
  clear hL h
  go_enter Try.func15, Try.ntmps15
  go_wp2_with fail
  go_loop [4] (fun n => ∃ k : Nat, n = .int .u8 (97 + (k : Int)) ∧ k ≤ 26 ∧ ∀ j, j < k → (nfind L (97 + j)).isNone = false) (fun n => 200 - (intOf n).toNat)
  case atStart => exact ⟨0, rfl, Nat.zero_le _, fun j h => by omega⟩
  case round =>
    obtain ⟨k, rfl, hk, hu⟩ := hrel
    have HU := tuck hu
    clear hu
    by_cases h26 : k < 26
    · go_wp2_with fail
      refine (isName_any _ _ (by omega) (by omega)).mono ?_
      rintro e w1 ⟨rfl, rfl⟩
      have hl : ltr (97 + (k : Int)) = true := by unfold ltr; simp; omega
      go_wp2_with fail
      refine (HF.out _).mono ?_
      rintro e w1 ⟨rfl, rfl⟩
      cases hn : nfind L (97 + (k : Int)) with
      | none =>
        have HN : Hid (freshN L = k) := tuck (freshN_of (by omega) HU.out fun _ => by rw [hn]; rfl)
        clear hn
        simp only [fpair]
        go_wp2_with fail
        exact HP.out _ (by rw [HN.out]; unfold frPair; rw [if_pos h26]; rfl)
      | some m =>
        have HN : Hid ((nfind L (97 + (k : Int))).isNone = false) := tuck (by rw [hn]; rfl)
        clear hn
        simp only [fpair]
        go_wp2_with fail
        go_round
        case rel =>
          refine ⟨k + 1, by go_num, by omega, fun j hj => ?_⟩
          rcases Nat.lt_or_ge j k with e | e
          · exact HU.out j e
          · obtain rfl : j = k := by omega
            exact HN.out
        case measure => simp [intOf]; omega
    · obtain rfl : k = 26 := by omega
      have HN : Hid (freshN L = 26) := tuck (freshN_of (by omega) HU.out fun h => by omega)
      go_wp2_with fail
      refine (isName_any _ _ (by omega) (by omega)).mono ?_
      rintro e w1 ⟨rfl, rfl⟩
      have hl : ltr (97 + ((26 : Nat) : Int)) = false := by decide
      go_wp2_with fail
      exact HP.out _ (by rw [HN.out]; rfl)
end Go.Proofs.Ytfnfbpdhploknaa
