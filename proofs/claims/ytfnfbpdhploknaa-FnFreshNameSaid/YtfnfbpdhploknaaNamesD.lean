/-
  Names as the laws draw them: one of nine texts.
-/
import Derived.Test.YtfnfbpdhploknaaDraw
import Derived.Test.YtfnfbpdhploknaaOpenB
namespace Go.Proofs.Ytfnfbpdhploknaa
open Go.RowKit

/-- A slice of texts, none of them long. -/
def StrsB (b o n : Nat) (w : World) : Prop := ∀ i, i < n → ∃ s : ByteArray, w.cell? ⟨b, o + i, none⟩ = some (.string s) ∧ s.size ≤ 1000
def StrDPost (g : Nat) (a : Option Addr) (len cap p : Nat) (w : World) (e : Ending) (w' : World) : Prop := ∃ s : ByteArray, s.size ≤ 1000 ∧ e = .returned (.string s) ∧ Rd g a len cap (p + 1) w' ∧ Only g w w'

theorem of_any {U : Nat → Int} {g : Nat} {a : Option Addr} {b o len cap p : Nat} {b2 o2 n c2 : Nat} (w : World) (hlen : len ≤ 2000) (hp : p ≤ 1000000) (hn : 1 ≤ n) (hn2 : n ≤ 1000000) (hrd : Rd g a len cap p w) (hby : Bytes U a b o len w) (hbg : 0 < len → b ≠ g) (hi : StrsB b2 o2 n w) (hb2 : b2 ≠ g) :
    Calls Try.prog 19 #[.pointer (some ⟨g, 0, none⟩), .slice (some ⟨b2, o2, none⟩) n c2] w (StrDPost g a len cap p w) := by
  have HP : Hid (∀ s w', s.size ≤ 1000 → Rd g a len cap (p + 1) w' → Only g w w' → StrDPost g a len cap p w (.returned (.string s)) w') := fun s w' h1 h2 h3 => ⟨s, h1, rfl, h2, h3⟩
  have HK := tuck (pick_any (n := (n : Int)) w hlen hp (by omega) (by omega) hrd hby hbg)
  have HI := tuck hi
  generalize StrDPost g a len cap p w = post at *
  clear hrd hby hi
  go_enter Try.func19, Try.ntmps19
  go_wp2_with fail
  refine HK.out.mono ?_
  rintro e w1 ⟨v, rfl, h0, h1, hrd, ho⟩
  obtain ⟨i, rfl⟩ : ∃ i : Nat, v = i := ⟨v.toNat, by omega⟩
  have hin : i < n := by omega
  obtain ⟨s, hc, hs⟩ := HI.out i hin
  have hc1 : w1.cell? ⟨b2, o2 + i, none⟩ = some (.string s) := (ho.cell (p := ⟨b2, o2 + i, none⟩) (World.block_lt_of_cell? w _ hc) hb2).trans hc
  have HR := tuck hrd
  have HO := tuck ho
  have HS := tuck hs
  clear hc hrd ho HI hs
  go_wp2
  exact HP.out _ _ HS.out HR.out HO.out


/-- What a draw of names leaves: a short text. -/
def NamesPost (g : Nat) (a : Option Addr) (len cap p : Nat) (w : World) (e : Ending) (w' : World) : Prop := ∃ s : ByteArray, s.size ≤ 1000 ∧ e = .returned (.string s) ∧ Rd g a len cap (p + 1) w' ∧ Only g w w'

set_option maxRecDepth 100000 in
theorem l6Names_any {U : Nat → Int} {g : Nat} {a : Option Addr} {b o len cap p : Nat} (w : World) (hlen : len ≤ 2000) (hp : p ≤ 1000000) (hrd : Rd g a len cap p w) (hby : Bytes U a b o len w) (hbg : 0 < len → b ≠ g) :
    Calls Try.prog 12 #[.pointer (some ⟨g, 0, none⟩)] w (NamesPost g a len cap p w) := by
  have HP : Hid (∀ s w', s.size ≤ 1000 → Rd g a len cap (p + 1) w' → Only g w w' → NamesPost g a len cap p w (.returned (.string s)) w') := fun s w' h1 h2 h3 => ⟨s, h1, rfl, h2, h3⟩
  generalize NamesPost g a len cap p w = post at *
  have hg := hrd.facts.1
  have HRD := tuck hrd
  have HBY := tuck hby
  clear hrd hby
  go_enter Try.func12, Try.ntmps12
  go_wp2_with fail
  refine (of_any (b2 := w.heap.size) (o2 := 0) (n := 9) _ hlen (by omega) (by omega) (by omega) (HRD.out.below (below1 _ _)) (HBY.out.below (below1 _ _)) hbg ?strs (by omega)).mono ?_
  case strs =>
    intro i hi
    have hcs : i = 0 ∨ i = 1 ∨ i = 2 ∨ i = 3 ∨ i = 4 ∨ i = 5 ∨ i = 6 ∨ i = 7 ∨ i = 8 := by omega
    rcases hcs with rfl | rfl | rfl | rfl | rfl | rfl | rfl | rfl | rfl <;> exact ⟨_, by rw [World.cell?_alloc_new]; rfl, by decide⟩
  rintro e w3 ⟨s, hs, rfl, hrd, ho⟩
  have HO := tuck (((Only.refl g w).alloc _).trans ho)
  have HR := tuck hrd
  clear hrd ho
  go_wp2_with fail
  exact HP.out _ _ hs HR.out HO.out

set_option maxRecDepth 100000 in
theorem drawFresh_any {U : Nat → Int} {a : Option Addr} {b o len cap : Nat} (w : World) (hlen : len ≤ 1048576) (hcap : len ≤ cap) (hby : Bytes U a b o len w) :
    Calls Try.prog 7 #[.slice a len cap] w fun e w' => ∃ s : ByteArray, s.size ≤ 1000 ∧ e = .returned (.string s) ∧ Below w.heap.size w w' := by
  have HO := tuck (open_any w (by omega) hcap hby)
  clear hby
  go_enter Try.func7, Try.ntmps7
  go_wp2_with fail
  refine HO.out.mono ?_
  rintro e w1 ⟨a', len', cap', rfl, hl, hbg, hrd, hby, hb, hz⟩
  have HB := tuck hb
  have HN := tuck (l6Names_any w1 hl (by omega) hrd hby (fun h => by have := hbg h; omega))
  clear hb hbg hrd hby HO
  go_wp2_with fail
  refine HN.out.mono ?_
  rintro e w2 ⟨s, hs, rfl, hrd, ho⟩
  have HB2 : Hid (Below w.heap.size w w2) := tuck (Only.below HB.out ho (Nat.le_refl _) HB.out.size)
  clear hrd ho
  go_wp2_with fail
  go_ret
  exact ⟨_, hs, rfl, HB2.out⟩
end Go.Proofs.Ytfnfbpdhploknaa
