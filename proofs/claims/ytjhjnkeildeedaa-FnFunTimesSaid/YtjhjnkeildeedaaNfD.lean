/-
  DrawFunValue.
-/
import Derived.Test.YtjhjnkeildeedaaDraw
import Derived.Test.YtjhjnkeildeedaaIntG
import Derived.Test.YtjhjnkeildeedaaNfC
namespace Go.Proofs.Ytjhjnkeildeedaa
open Go.RowKit
set_option linter.unusedVariables false
set_option linter.unusedSimpArgs false

theorem OwnN.onlyN {base n g : Nat} {N : Int → Int} {v : Value} {w w' : World} (h : OwnN base n N v w) (ho : Only g w w') (hg : g < base) : OwnN base n N v w' := by
  have h' : w.ownsRow base 3 1 v n _ := h
  refine h'.kept ho (Or.inr fun e => ?_)
  have := (h.lt g e).1
  omega
theorem OwnN.push_anyN {base n : Nat} {N : Int → Int} {v' : Value} {w1 : World} {x : Int} (h : w1.ownsRow base 3 1 v' (n + 1) (((List.range n).map fun j : Nat => Value.int .i64 (N j)) ++ [.int .i64 x])) : ∃ N', OwnN base (n + 1) N' v' w1 := by
  refine ⟨fun i => if i = n then x else N i, OwnN.push ?_⟩
  have e : ((List.range n).map fun j : Nat => Value.int .i64 (if (j : Int) = n then x else N j)) = ((List.range n).map fun j : Nat => Value.int .i64 (N j)) := by
    refine List.map_congr_left fun j hj => ?_
    have := List.mem_range.1 hj
    rw [if_neg (by omega)]
  rw [e, if_pos rfl]
  exact h
theorem Rd.grownN {g : Nat} {a : Option Addr} {len cap p : Nat} {w w' : World} {row : Option Nat} (h : Rd g a len cap p w) (k : w.grownBy w' row) (hr : ∀ x, row = some x → x ≠ g) : Rd g a len cap p w' :=
  (k.block g h.facts.1 (fun e => hr g e.symm rfl)).trans h
theorem Only.grownN {g : Nat} {a b c : World} {row : Option Nat} (h : Only g a b) (k : b.grownBy c row) (hr : ∀ x, row = some x → a.heap.size ≤ x) : Only g a c :=
  ⟨k.os.trans h.os, k.tape.trans h.tape, k.output.trans h.output, Nat.le_trans h.size k.size, fun x hx hn => (k.block x (Nat.lt_of_lt_of_le hx h.size) (fun e => by have := hr x e.symm; omega)).trans (h.block x hx hn)⟩

/-- A function's number is drawn. -/
def FunPost (g : Nat) (a : Option Addr) (len cap p : Nat) (w : World) (e : Ending) (w' : World) : Prop := ∃ f : Int, e = .returned (.int .i64 f) ∧ Rd g a len cap (p + 1) w' ∧ Only g w w'
theorem nfA_le (f : Int) : -1 ≤ nfA f ∧ nfA f ≤ 2 := by
  unfold nfA
  split
  · omega
  · split <;> omega

set_option maxRecDepth 100000 in
theorem fun10_any {U : Nat → Int} {g : Nat} {a : Option Addr} {b o len cap p : Nat} (w : World) (hlen : len ≤ 2000) (hp : p ≤ 1000000) (hrd : Rd g a len cap p w) (hby : Bytes U a b o len w) (hbg : 0 < len → b ≠ g) : Calls Try.prog 42 #[.pointer (some ⟨g, 0, none⟩)] w (FunPost g a len cap p w) := by
  have HP : Hid (∀ f w', Rd g a len cap (p + 1) w' → Only g w w' → FunPost g a len cap p w (.returned (.int .i64 f)) w') := tuck fun f w' h1 h2 => ⟨f, rfl, h1, h2⟩
  generalize FunPost g a len cap p w = post at *
  have HL := ints_new [1, 2, 3, 4, 5, 6, 7, 0, 8, -1] w 3
  have hbx := below1 w (.cells #[.int .i64 1, .int .i64 2, .int .i64 3, .int .i64 4, .int .i64 5, .int .i64 6, .int .i64 7, .int .i64 0, .int .i64 8, .int .i64 (-1)] 3)
  have hgn := hrd.facts.1
  have HRD := tuck (hrd.below hbx)
  have HBY := tuck (hby.below hbx)
  have HU : Hid (Only g w (w.alloc (.cells #[.int .i64 1, .int .i64 2, .int .i64 3, .int .i64 4, .int .i64 5, .int .i64 6, .int .i64 7, .int .i64 0, .int .i64 8, .int .i64 (-1)] 3))) := tuck ((Only.refl _ _).alloc _)
  clear hbx hrd hby
  go_enter Try.func42, Try.ntmps42
  go_wp2_with fail
  refine (num_any (N := fun i => ([1, 2, 3, 4, 5, 6, 7, 0, 8, -1] : List Int).getD i 0) (o2 := 0) (n := 10) _ hlen hp (by omega) (by omega) HRD.out HBY.out hbg HL (by omega)).mono ?_
  rintro e w1 ⟨i, hi, he, hrd, ho⟩
  obtain ⟨x, hx⟩ : ∃ x : Int, ([1, 2, 3, 4, 5, 6, 7, 0, 8, -1] : List Int).getD i 0 = x := ⟨_, rfl⟩
  obtain rfl : e = .returned (.int .i64 x) := by rw [← hx]; exact he
  replace HU := tuck (HU.out.trans ho)
  replace HRD := tuck hrd
  clear he hx hi HL ho hrd HBY
  go_wp2_with fail
  first
    | exact HP.out _ _ HRD.out HU.out
    | (go_ret; exact HP.out _ _ HRD.out HU.out)

/-- A function and some numbers. -/
def FvDraw (w : World) (e : Ending) (w' : World) : Prop := ∃ (f : Int) (n : Nat) (N : Int → Int) (nv : Value), e = .returned (.tuple #[.int .i64 f, nv]) ∧ n ≤ 3 ∧ Ints w' 0 N n nv ∧ Below w.heap.size w w'

set_option maxRecDepth 100000 in
set_option maxHeartbeats 3200000 in
theorem dFunValue_any {U : Nat → Int} {a : Option Addr} {b o len cap : Nat} (w : World) (hlen : len ≤ 140737488355328) (hcap : len ≤ cap) (hby : Bytes U a b o len w) : Calls Try.prog 23 #[.slice a len cap] w (FvDraw w) := by
  have HP : Hid (∀ f n N nv w', n ≤ 3 → Ints w' 0 N n nv → Below w.heap.size w w' → FvDraw w (.returned (.tuple #[.int .i64 f, nv])) w') := tuck fun f n N nv w' h1 h2 h3 => ⟨f, n, N, nv, rfl, h1, h2, h3⟩
  generalize FvDraw w = post at *
  have HO := tuck (open_any w hlen hcap hby)
  clear hby
  go_enter Try.func23, Try.ntmps23
  go_wp2_with fail
  refine HO.out.mono ?_
  rintro e w1 ⟨a', len', cap', rfl, hl, hbl, hrd, hby, hb1, hz⟩
  have HB := tuck hb1
  have HBY := tuck hby
  generalize hg : w.heap.size = g at *
  have HBW : Hid (0 < len' → b ≠ g) := tuck (fun h => Nat.ne_of_lt (hbl h))
  have HF := tuck (fun10_any w1 hl (p := 0) (by omega) hrd hby HBW.out)
  clear hrd hby HO hbl hb1
  go_wp2_with fail
  refine HF.out.mono ?_
  rintro e w2 ⟨f, rfl, hrd, ho⟩
  have HRD := tuck hrd
  replace HB := tuck (Only.below HB.out ho (Nat.le_refl _) (by omega))
  replace HBY := tuck (HBY.out.only ho HBW.out)
  have hz2 : g < w2.heap.size := hrd.facts.1
  clear hrd ho HF hz
  go_wp2_with fail
  have HO0 : Hid (OwnN w2.heap.size 0 (fun i => i) (.slice (some ⟨w2.heap.size, 0, none⟩) 0 0) (w2.alloc (.cells #[] 3))) := by
    have h := World.ownsRow_lit (base := w2.heap.size) (e := 3) (size := 1) w2 #[] 0 (by omega) (by simp [maxLen]) (by simp)
    exact h
  have HU : Hid (Only g w2 (w2.alloc (.cells #[] 3))) := tuck ((Only.refl _ _).alloc _)
  replace HRD := tuck (HRD.out.below (below1 w2 (.cells #[] 3)))
  refine (arityS_any f _).mono ?_
  rintro e w3 ⟨rfl, rfl⟩
  have hnf := nfA_le f
  generalize nfA f = m at *
  go_wp2_with fail
  refine (pick_any (n := 12) _ hl (by omega) (by omega) (by omega) HRD.out (HBY.out.only HU.out HBW.out) HBW.out).mono ?_
  rintro e w4 ⟨x, rfl, hx0, hx1, hrd, ho⟩
  replace HU := tuck (HU.out.trans ho)
  replace HO0 := tuck (HO0.out.onlyN ho hz2)
  replace HRD := tuck hrd
  clear ho hrd
  have HZ2 := tuck hz2

  by_cases hx : x = 0
  · have hx' : (x == 0) = true := by simpa using hx
    go_wp2_with fail
    go_loopw [6, 8] (fun v i wr => ∃ (n p : Nat) (N : Int → Int), (n : Int) ≤ 3 ∧ p ≤ 10 + n ∧ i = .int .i64 n ∧ OwnN w2.heap.size n N v wr ∧ Only g w2 wr ∧ Rd g a' len' cap' p wr) (fun _ i _ => 3 - (intOf i).toNat)
    case atStart => exact ⟨0, 0 + 1 + 1, _, by omega, by omega, rfl, HO0.out, HU.out, HRD.out⟩
    case round =>
      obtain ⟨n, p, N, hn, hp, rfl, ho, hu, hr⟩ := hrel
      clear HO0 HU HRD
      have HO := tuck ho
      have HU := tuck hu
      have HRD := tuck hr
      clear ho hu hr
      have hzr : w2.heap.size ≤ wr.heap.size := HU.out.size
      by_cases hlt : (n : Int) < m + 1
      · have hlti : decide ((n : Int) < m + 1) = true := decide_eq_true hlt
        go_wp2_with fail
        have HL := ints_new [0, 1, 2, 3, 4, 5, 20, 21, -1, 9223372036854775807] wr 3
        have hbx := below1 wr (.cells #[.int .i64 0, .int .i64 1, .int .i64 2, .int .i64 3, .int .i64 4, .int .i64 5, .int .i64 20, .int .i64 21, .int .i64 (-1), .int .i64 9223372036854775807] 3)
        replace HRD := tuck (HRD.out.below hbx)
        replace HO := tuck (HO.out.below hbx)
        replace HU := tuck (HU.out.of_below hbx)
        clear hbx
        refine (num_any (N := fun i => ([0, 1, 2, 3, 4, 5, 20, 21, -1, 9223372036854775807] : List Int).getD i 0) (o2 := 0) (n := 10) _ hl (by omega) (by omega) (by omega) HRD.out (HBY.out.only HU.out HBW.out) HBW.out HL (by omega)).mono ?_
        rintro e w5 ⟨i, hi, he, hrd, ho⟩
        obtain ⟨y, hy⟩ : ∃ x : Int, ([0, 1, 2, 3, 4, 5, 20, 21, -1, 9223372036854775807] : List Int).getD i 0 = x := ⟨_, rfl⟩
        obtain rfl : e = .returned (.int .i64 y) := by rw [← hy]; exact he
        clear he hy hi HL
        replace HU := tuck (HU.out.trans ho)
        replace HO := tuck (HO.out.onlyN ho HZ2.out)
        replace HRD := tuck hrd
        clear ho hrd
        have hzb : w2.heap.size ≤ w5.heap.size := HU.out.size
        obtain ⟨i0, hi, hz0, hz1, hz2'⟩ := info_parts info_int
        go_wp2_with (at_builtin; refine wpList_append_own _ rfl _ _ 24 rfl w2.heap.size 3 i0 (.int .i64 0) 1 8 Try.underlying24 hi hz0 hz1 hz2' rfl (by decide) _ _ _ rfl (World.ownsRow.alloc HO.out _) ⟨_, 0, none⟩ 1 1 [.int .i64 y] rfl rfl (cell_one_new _ _ _) (by intro u hu; simp at hu; subst hu; rfl) (by unfold maxLen; omega) (by omega) (by simp; omega) ?_; intro vN wN hownN hgrowN _)
        obtain ⟨N', ho'⟩ := OwnN.push_anyN hownN
        have HO' := tuck ho'
        have HU' : Hid (Only g w2 wN) := tuck ((HU.out.alloc _).grownN hgrowN (fun x hx => (HO.out.lt x hx).1))
        have HRD' := tuck ((HRD.out.below (below1 _ _)).grownN hgrowN (fun x hx => by have := (HO.out.lt x hx).1; have := HZ2.out; omega))
        clear hownN hgrowN ho'
        go_wp2_with fail
        go_roundw
        case rel => exact ⟨n + 1, p + 1, N', by omega, by omega, by go_num, HO'.out, HU'.out, HRD'.out⟩
        case measure => simp [intOf]; omega
      · have hge2 : decide ((n : Int) < m + 1) = false := decide_eq_false hlt
        obtain ⟨av, cv, rfl⟩ := HO.out.form
        have HB5 := tuck (Only.below HB.out HU.out (Nat.le_refl _) (Nat.le_of_lt HZ2.out))
        go_wp2_with fail
        exact (HP.out _ n N _ _ (by omega) HO.out.ints HB5.out)
  · have hx' : (x == 0) = false := by simpa using hx
    go_wp2_with fail
    go_loopw [6, 8] (fun v i wr => ∃ (n p : Nat) (N : Int → Int), (n : Int) ≤ 3 ∧ p ≤ 10 + n ∧ i = .int .i64 n ∧ OwnN w2.heap.size n N v wr ∧ Only g w2 wr ∧ Rd g a' len' cap' p wr) (fun _ i _ => 3 - (intOf i).toNat)
    case atStart => exact ⟨0, 0 + 1 + 1, _, by omega, by omega, rfl, HO0.out, HU.out, HRD.out⟩
    case round =>
      obtain ⟨n, p, N, hn, hp, rfl, ho, hu, hr⟩ := hrel
      clear HO0 HU HRD
      have HO := tuck ho
      have HU := tuck hu
      have HRD := tuck hr
      clear ho hu hr
      have hzr : w2.heap.size ≤ wr.heap.size := HU.out.size
      by_cases hlt : (n : Int) < m
      · have hlti : decide ((n : Int) < m) = true := decide_eq_true hlt
        go_wp2_with fail
        have HL := ints_new [0, 1, 2, 3, 4, 5, 20, 21, -1, 9223372036854775807] wr 3
        have hbx := below1 wr (.cells #[.int .i64 0, .int .i64 1, .int .i64 2, .int .i64 3, .int .i64 4, .int .i64 5, .int .i64 20, .int .i64 21, .int .i64 (-1), .int .i64 9223372036854775807] 3)
        replace HRD := tuck (HRD.out.below hbx)
        replace HO := tuck (HO.out.below hbx)
        replace HU := tuck (HU.out.of_below hbx)
        clear hbx
        refine (num_any (N := fun i => ([0, 1, 2, 3, 4, 5, 20, 21, -1, 9223372036854775807] : List Int).getD i 0) (o2 := 0) (n := 10) _ hl (by omega) (by omega) (by omega) HRD.out (HBY.out.only HU.out HBW.out) HBW.out HL (by omega)).mono ?_
        rintro e w5 ⟨i, hi, he, hrd, ho⟩
        obtain ⟨y, hy⟩ : ∃ x : Int, ([0, 1, 2, 3, 4, 5, 20, 21, -1, 9223372036854775807] : List Int).getD i 0 = x := ⟨_, rfl⟩
        obtain rfl : e = .returned (.int .i64 y) := by rw [← hy]; exact he
        clear he hy hi HL
        replace HU := tuck (HU.out.trans ho)
        replace HO := tuck (HO.out.onlyN ho HZ2.out)
        replace HRD := tuck hrd
        clear ho hrd
        have hzb : w2.heap.size ≤ w5.heap.size := HU.out.size
        obtain ⟨i0, hi, hz0, hz1, hz2'⟩ := info_parts info_int
        go_wp2_with (at_builtin; refine wpList_append_own _ rfl _ _ 24 rfl w2.heap.size 3 i0 (.int .i64 0) 1 8 Try.underlying24 hi hz0 hz1 hz2' rfl (by decide) _ _ _ rfl (World.ownsRow.alloc HO.out _) ⟨_, 0, none⟩ 1 1 [.int .i64 y] rfl rfl (cell_one_new _ _ _) (by intro u hu; simp at hu; subst hu; rfl) (by unfold maxLen; omega) (by omega) (by simp; omega) ?_; intro vN wN hownN hgrowN _)
        obtain ⟨N', ho'⟩ := OwnN.push_anyN hownN
        have HO' := tuck ho'
        have HU' : Hid (Only g w2 wN) := tuck ((HU.out.alloc _).grownN hgrowN (fun x hx => (HO.out.lt x hx).1))
        have HRD' := tuck ((HRD.out.below (below1 _ _)).grownN hgrowN (fun x hx => by have := (HO.out.lt x hx).1; have := HZ2.out; omega))
        clear hownN hgrowN ho'
        go_wp2_with fail
        go_roundw
        case rel => exact ⟨n + 1, p + 1, N', by omega, by omega, by go_num, HO'.out, HU'.out, HRD'.out⟩
        case measure => simp [intOf]; omega
      · have hge2 : decide ((n : Int) < m) = false := decide_eq_false hlt
        obtain ⟨av, cv, rfl⟩ := HO.out.form
        have HB5 := tuck (Only.below HB.out HU.out (Nat.le_refl _) (Nat.le_of_lt HZ2.out))
        go_wp2_with fail
        exact (HP.out _ n N _ _ (by omega) HO.out.ints HB5.out)

end Go.Proofs.Ytjhjnkeildeedaa
