/-
  To.
-/
import Derived.Test.YteeafpnjpcgfaaaGreatB01
import Derived.Laws.MakeOwn
import Derived.ProofKit
import Derived.StillTailTactics
import Derived.Test.YteeafpnjpcgfaaaGreatProg
import Derived.WalkSpells
namespace Go.Proofs.YteeafpnjpcgfaaaGreat
open Go.RowKit
def szV (l : List Tm) (left : Int) : Int := if (sizes l : Int) ≤ left then left - sizes l else -1
def SzPost (w : World) (n : Int) (e : Ending) (w' : World) : Prop := e = .returned (.int .i64 n) ∧ Below w.heap.size w w'
theorem szV_neg {l : List Tm} {left : Int} : szV l left < 0 ↔ left < sizes l := by unfold szV; split <;> omega
theorem szV_of {l : List Tm} {left : Int} (h : (sizes l : Int) ≤ left) : szV l left = left - sizes l := by unfold szV; rw [if_pos h]
theorem szV_not {l : List Tm} {left : Int} (h : left < sizes l) : szV l left = -1 := by unfold szV; rw [if_neg (by omega)]
theorem szT_of {t : Tm} {left : Int} (hk : ∀ (w : World) (v : Value), SlIn w 0 t.kids v → Calls Tryz.prog 29 #[v, .int .i64 left] w (SzPost w (szV t.kids left))) :
  ∀ (w : World) (v : Value), TmIn w 0 t v → Calls Tryz.prog 8 #[v, .int .i64 left] w (SzPost w (szV t.kids left)) := by
 rintro w v ⟨s, rfl, h1⟩
 have hs : szV t.kids left < 0 → szV t.kids left = -1 := by unfold szV; split <;> omega
 generalize t.kind = k1 at *
 generalize t.num = n1 at *
 generalize szV t.kids left = r at *
 have HK := tuck hk
 have H1 := tuck h1
 have HS := tuck hs
 clear hk h1 hs
 go_enter Tryz.func8, Tryz.ntmps8
 go_wp2_with (go_at_call 29; refine (HK.out _ _ (H1.out.below (below1 _ _))).mono ?_; rintro e w' ⟨rfl, hb⟩)
 ·go_ret
  exact ⟨ret_int (HS.out ‹_›).symm, bAfter (below1 _ _) hb⟩
 ·go_ret
  exact ⟨rfl, bAfter (below1 _ _) hb⟩
set_option maxRecDepth 100000 in
theorem szS_any : ∀ (l : List Tm) (left : Int) (w : World) (v : Value), 0 ≤ left → left ≤ 1048576 → SlIn w 0 l v → Calls Tryz.prog 29 #[v, .int .i64 left] w (SzPost w (szV l left)) := by
 intro l
 induction l using Tm.ind with
 | h l ih =>
 intro left w v h0 h1 hin
 obtain ⟨a, cap, b, o, rfl, hl, hp, hc⟩ := hin.open
 clear hin
 have HI := tuck ih
 have HP := tuck hp
 have HC := tuck hc
 clear ih hp hc
 unfold maxLen at hl
 have hls := length_le_sizes l
 by_cases hneg : left < (l.length : Int)
 ·go_enter Tryz.func29, Tryz.ntmps29
  go_wp2
  go_ret
  exact ⟨ret_int (szV_not (by omega)).symm, Below.refl _ _⟩
 ·have HLS := tuck hls
  clear hls
  go_enter Tryz.func29, Tryz.ntmps29
  go_wp2
  go_loopw [5, 1] (fun i r wr => ∃ (k : Nat) (m : Int), k ≤ l.length ∧ i = .int .i64 k ∧ r = .int .i64 m ∧ 0 ≤ m ∧ m + l.length + sizes (l.take k) = left + k ∧ Below w.heap.size w wr) (fun i _ _ => l.length - (intOf i).toNat)
  case atStart => exact ⟨0, left - l.length, Nat.zero_le _, rfl, rfl, by omega, by simp [sizes], Below.refl _ _⟩
  case round =>
   obtain ⟨k, m, hk, rfl, rfl, hm, hsum, hb⟩ := hrel
   have hlek := length_le_sizes (l.take k)
   rw [List.length_take, Nat.min_eq_left hk] at hlek
   have HS := tuck hsum
   have hm2 : m ≤ 1048576 := by omega
   by_cases hlt : k < l.length
   ·have hlti : ((k : Int) < (l.length : Int)) := by omega
    obtain ⟨rfl, _, hbw⟩ := HP.out (by intro e; rw [e] at hlt; simp at hlt)
    obtain ⟨s, c0, c1, c2, hs⟩ := HC.out k hlt
    replace c0 := (hb.cell (p := ⟨b, o + k * 3, none⟩) hbw).trans c0
    replace c1 := (hb.cell (p := ⟨b, o + k * 3 + 1, none⟩) hbw).trans c1
    replace c2 := (hb.cell (p := ⟨b, o + k * 3 + 2, none⟩) hbw).trans c2
    have HB := tuck hb
    have HT := tuck hs
    have HI' := tuck (HI.out k hlt)
    have hstep := sizes_take_succ l k hlt
    have hle2 := sizes_take_rest l (k + 1)
    rw [Tm.size_eq] at hstep
    have HST := tuck hstep
    have HLE := tuck hle2
    clear hb hs HI hlek hsum hstep hle2
    generalize l[k] = x at *
    have HM := tuck (szV_neg (l := x.kids) (left := m))
    have HO := tuck (@szV_of x.kids m)
    have HN := tuck (@szV_not x.kids m)
    go_wp2_with (go_at_call 8; refine (szT_of (t := x) (fun w v g => HI'.out _ w v hm hm2 g) _ _ ⟨s, rfl, HT.out.below HB.out⟩).mono ?_; rintro e w' ⟨rfl, hb'⟩)
    ·go_ret
     have h3 := HM.out.1 ‹_›
     have h4 := HS.out
     have h5 := HST.out
     have h6 := HLE.out
     exact ⟨ret_int (szV_not (by omega)).symm, bAfter HB.out hb'⟩
    ·have h3 : ¬ szV x.kids m < 0 := by omega
     rw [HM.out] at h3
     have h4 := HS.out
     have h5 := HST.out
     have h7 := HO.out (by omega)
     go_roundw
     case rel =>
      exact ⟨k + 1, _, by omega, by go_num, rfl, by omega, by rw [h7]; omega, bAfter HB.out hb'⟩
     case measure => simp [intOf]; omega
   ·have hge2 : ¬ ((k : Int) < (l.length : Int)) := by omega
    have HB := tuck hb
    clear hb hlek hsum
    go_wp2
    go_ret
    have h4 := HS.out
    rw [List.take_of_length_le (by omega)] at h4
    exact ⟨ret_int (by rw [szV_of (by omega)]; omega), HB.out⟩
theorem szT_any (t : Tm) (left : Int) (w : World) (v : Value) (h0 : 0 ≤ left) (h1 : left ≤ 1048576) (h : TmIn w 0 t v) : Calls Tryz.prog 8 #[v, .int .i64 left] w (SzPost w (szV t.kids left)) :=
 szT_of (fun w v g => szS_any _ _ w v h0 h1 g) w v h
theorem info_term : (Tryz.prog.info? 29).map (fun i => (i.zero, i.size, i.bytes)) = some (some (.agg #[.int .i64 0, .int .i64 0, .slice none 0 0]), 3, 40) := by kernel_rfl
end Go.Proofs.YteeafpnjpcgfaaaGreat
