/-
  Names.
-/
import Derived.Test.YtjdmfegdgpbkgaaGreatO01
import Derived.BigQuiet
import Derived.Deep.QuietTactic
import Derived.Laws.IdiomStrings
import Derived.ProofKit
import Derived.Test.YtjdmfegdgpbkgaaGreatProg
import Derived.WalkSpells
namespace Go.Proofs.YtjdmfegdgpbkgaaGreat
open Go.RowKit
set_option linter.unusedVariables false
def ltr (c : Int) : Bool := decide (97 ≤ c ∧ c ≤ 122)
def nfind : List Int → Int → Option Nat
 | [], _ => none
 | x :: r, c => if x = c then some 0 else (nfind r c).map (· + 1)
def good : List Int → Bool
 | [] => true
 | x :: r => good r && (ltr x && (nfind r x).isNone)
def bl (s : ByteArray) : Nat → List Int
 | 0 => []
 | i + 1 => (if h : i < s.size then (s[i].toNat : Int) else 0) :: bl s i
theorem bl_length (s : ByteArray) : ∀ i, (bl s i).length = i
 | 0 => rfl
 | i + 1 => by rw [bl, List.length_cons, bl_length s i]
theorem bl_extract (s : ByteArray) (n : Nat) (hn : n ≤ s.size) : ∀ i, i ≤ n → bl (s.extract 0 n) i = bl s i
 | 0, _ => rfl
 | i + 1, h => by
  have h1 : i < (s.extract 0 n).size := by rw [ByteArray.size_extract]; omega
  have h2 : i < s.size := by omega
  rw [bl, bl, dif_pos h1, dif_pos h2, bl_extract s n hn i (by omega), ByteArray.getElem_extract]
  congr 3
  simp
theorem nfind_lt : ∀ {L : List Int} {c : Int} {n : Nat}, nfind L c = some n → n < L.length
 | [], _, _, h => by simp [nfind] at h
 | x :: r, c, n, h => by
  rw [nfind] at h
  split at h
  ·simp at h; subst h; simp
  ·cases hr : nfind r c with
   | none => rw [hr] at h; simp at h
   | some m =>
    rw [hr] at h
    simp at h
    have := nfind_lt hr
    simp
    omega
theorem good_bl {s : ByteArray} : ∀ {n i : Nat}, i ≤ n → good (bl s n) = true → good (bl s i) = true
 | 0, i, h, g => by
  obtain rfl : i = 0 := by omega
  exact g
 | n + 1, i, h, g => by
  rcases Nat.lt_or_ge i (n + 1) with e | e
  ·rw [bl, good] at g
   simp only [Bool.and_eq_true] at g
   exact good_bl (by omega) g.1
  ·obtain rfl : i = n + 1 := by omega
   exact g
def nameOk (s : ByteArray) : Bool := good (bl s s.size) && decide (s.size ≤ 20)
theorem nameOk_size {s : ByteArray} (h : nameOk s = true) : s.size ≤ 20 := by unfold nameOk at h; simp at h; exact h.2
def NL (w : World) : List Int → Value → Prop
 | [], p => p = .pointer none
 | c :: r, p => ∃ (g : Nat) (q : Option Addr), p = .pointer (some ⟨g, 0, none⟩) ∧ w.heap[g]? = some (.cells #[.int .u8 c, .pointer q] 137 (0, 0)) ∧ NL w r (.pointer q)
theorem NL.below {w w' : World} (hb : Below w.heap.size w w') : ∀ {L : List Int} {p : Value}, NL w L p → NL w' L p
 | [], _, h => h
 | c :: r, _, ⟨g, q, rfl, h, hr⟩ => ⟨g, q, rfl, (hb.block g (block_of_cells h).1).trans h, NL.below hb hr⟩
theorem NL.cons {w : World} {c : Int} {L : List Int} {q : Option Addr} (h : NL w L (.pointer q)) : NL (w.alloc (.cells #[.int .u8 c, .pointer q] 137)) (c :: L) (.pointer (some ⟨w.heap.size, 0, none⟩)) :=
 ⟨_, q, rfl, heap_new _ _, h.below (below1 _ _)⟩
def SameW (w : World) (v : Value) (e : Ending) (w' : World) : Prop := e = .returned v ∧ w' = w
theorem isName_any (c : Int) (w : World) (h0 : 0 ≤ c) (h1 : c ≤ 255) : Calls Tryz.prog 79 #[.int .u8 c] w (SameW w (.bool (ltr c))) := by
 have HP : Hid (∀ v, v = ltr c → SameW w (.bool (ltr c)) (.returned (.bool v)) w) := tuck fun v h => by rw [h]; exact ⟨rfl, rfl⟩
 generalize SameW w (.bool (ltr c)) = post at *
 by_cases ha : 97 ≤ c
 ·have ha' : decide (97 ≤ c) = true := decide_eq_true ha
  go_enter Tryz.func79, Tryz.ntmps79
  go_wp2
  exact HP.out _ (by unfold ltr; simp [ha])
 ·have ha' : decide (97 ≤ c) = false := decide_eq_false ha
  go_enter Tryz.func79, Tryz.ntmps79
  go_wp2
  exact HP.out _ (by unfold ltr; simp; omega)
theorem letter_any (c : Int) (w : World) (h0 : 0 ≤ c) (h1 : c ≤ 255) : Calls Tryz.prog 72 #[.int .u8 c] w (SameW w (.bool (ltr c))) := by
 have HP : Hid (∀ v, v = ltr c → SameW w (.bool (ltr c)) (.returned (.bool v)) w) := tuck fun v h => by rw [h]; exact ⟨rfl, rfl⟩
 generalize SameW w (.bool (ltr c)) = post at *
 by_cases ha : 97 ≤ c
 ·have ha' : decide (97 ≤ c) = true := decide_eq_true ha
  go_enter Tryz.func72, Tryz.ntmps72
  go_wp2
  exact HP.out _ (by unfold ltr; simp [ha])
 ·have ha' : decide (97 ≤ c) = false := decide_eq_false ha
  go_enter Tryz.func72, Tryz.ntmps72
  go_wp2
  exact HP.out _ (by unfold ltr; simp; omega)
def fpair : Option Nat → Value
 | some n => .tuple #[.int .i64 n, .bool true]
 | none => .tuple #[.int .i64 0, .bool false]
set_option maxRecDepth 100000 in
theorem find_any (L : List Int) (c : Int) (q : Option Addr) (w : World) (hL : L.length ≤ 1000) (h : NL w L (.pointer q)) : Calls Tryz.prog 78 #[.pointer q, .int .u8 c] w (SameW w (fpair (nfind L c))) := by
 have HP : Hid (∀ o v, o = nfind L c → v = fpair o → SameW w (fpair (nfind L c)) (.returned v) w) := tuck fun o v h1 h2 => by rw [h2, h1]; exact ⟨rfl, rfl⟩
 generalize SameW w (fpair (nfind L c)) = post at *
 have HL := tuck hL
 have HH := tuck h
 clear hL h
 go_enter Tryz.func78, Tryz.ntmps78
 go_wp2_with fail
 go_loop [0, 6] (fun l n => ∃ (r : List Int) (q : Option Addr) (k : Nat), l = .pointer q ∧ n = .int .i64 k ∧ NL w r (.pointer q) ∧ k + r.length = L.length ∧ nfind L c = (nfind r c).map (· + k)) (fun _ n => 1000 - (intOf n).toNat)
 case atStart => exact ⟨L, q, 0, rfl, rfl, HH.out, by omega, by simp⟩
 case round =>
  obtain ⟨r, q, k, rfl, rfl, hr, hk, he⟩ := hrel
  have hL := HL.out
  match r, hr with
  | [], hr =>
   have : q = none := by have := hr; simp [NL] at this; exact this
   subst this
   have HE : Hid (nfind L c = none) := tuck (by rw [he]; rfl)
   clear he hk hL hr
   go_wp2_with fail
   exact HP.out none _ HE.out.symm rfl
  | x :: r, hr =>
   obtain ⟨g, q', hq, hg, hr'⟩ := hr
   injection hq with hq
   subst hq
   obtain ⟨hgs, hc, hf⟩ := block_of_cells hg
   have c0 := hc 0
   have c1 := hc 1
   simp at c0 c1
   rw [List.length_cons] at hk
   have HR := tuck hr'
   clear hr' hc hf hg
   by_cases hx : x = c
   ·have hxb : (x == c) = true := by simpa using hx
    have HE : Hid (nfind L c = some k) := tuck (by rw [he, nfind, if_pos hx]; simp)
    clear he hx
    go_wp2_with fail
    exact HP.out (some k) _ HE.out.symm rfl
   ·have hxb : (x == c) = false := by simpa using hx
    have HE : Hid (nfind L c = (nfind r c).map (· + (k + 1))) := tuck (by
     rw [he, nfind, if_neg hx, Option.map_map]
     congr 1
     funext m
     simp; omega)
    clear he hx
    have HK := tuck hk
    clear hk
    have hkb : k ≤ 1000 := by have := HK.out; omega
    go_wp2_with fail
    go_round
    case rel => exact ⟨r, q', k + 1, rfl, by go_num, HR.out, by have := HK.out; omega, HE.out⟩
    case measure => (simp [intOf]; have := HK.out; omega)
theorem with_any (L : List Int) (c : Int) (q : Option Addr) (w : World) : Calls Tryz.prog 80 #[.pointer q, .int .u8 c] w (fun e w' => e = .returned (.pointer (some ⟨w.heap.size, 0, none⟩)) ∧ w' = w.alloc (.cells #[.int .u8 c, .pointer q] 137)) := by
 go_enter Tryz.func80, Tryz.ntmps80
 go_wp2
 go_ret
 exact ⟨rfl, rfl⟩
end Go.Proofs.YtjdmfegdgpbkgaaGreat
