/-
  laws.szTermS, laws.szTerm count the nodes of an argument; laws.toTermS, laws.toTerm copy it.
-/
import Derived.Test.YteeafpnjpcgfaaaGreatBase
import Derived.Test.YteeafpnjpcgfaaaGreatProg
import Derived.StillTailTactics
import Derived.WalkSpells
import Derived.ProofKit
import Derived.Laws.MakeOwn
namespace Go.Proofs.YteeafpnjpcgfaaaGreat
open Go.RowKit

/-- What szTermS answers: what is left, or -1. -/
def szV (l : List Tm) (left : Int) : Int := if (sizes l : Int) ≤ left then left - sizes l else -1

def SzPost (w : World) (n : Int) (e : Ending) (w' : World) : Prop := e = .returned (.int .i64 n) ∧ Below w.heap.size w w'

theorem szV_neg {l : List Tm} {left : Int} : szV l left < 0 ↔ left < sizes l := by unfold szV; split <;> omega
theorem szV_of {l : List Tm} {left : Int} (h : (sizes l : Int) ≤ left) : szV l left = left - sizes l := by unfold szV; rw [if_pos h]
theorem szV_not {l : List Tm} {left : Int} (h : left < sizes l) : szV l left = -1 := by unfold szV; rw [if_neg (by omega)]

theorem szT_of {t : Tm} {left : Int} (hk : ∀ (w : World) (v : Value), SlIn w 0 t.kids v → Calls Tryz.prog 29 #[v, .int .i64 left] w (SzPost w (szV t.kids left))) :
    ∀ (w : World) (v : Value), TmIn w 0 t v → Calls Tryz.prog 8 #[v, .int .i64 left] w (SzPost w (szV t.kids left)) := by
  rintro w v ⟨s, rfl, h1⟩
  have hs : szV t.kids left < 0 → szV t.kids left = -1 := by unfold szV; split <;> omega
  generalize t.kind = k1 at *
  generalize t.num = n1 at *
  generalize szV t.kids left = r at *
  have HK := tuck hk
  have H1 := tuck h1
  have HS := tuck hs
  clear hk h1 hs
  go_enter Tryz.func8, Tryz.ntmps8
  go_wp2_with (go_at_call 29; refine (HK.out _ _ (H1.out.below (below1 _ _))).mono ?_; rintro e w' ⟨rfl, hb⟩)
  · go_ret
    exact ⟨ret_int (HS.out ‹_›).symm, bAfter (below1 _ _) hb⟩
  · go_ret
    exact ⟨rfl, bAfter (below1 _ _) hb⟩

set_option maxRecDepth 100000 in
theorem szS_any : ∀ (l : List Tm) (left : Int) (w : World) (v : Value), 0 ≤ left → left ≤ 1048576 → SlIn w 0 l v → Calls Tryz.prog 29 #[v, .int .i64 left] w (SzPost w (szV l left)) := by
  intro l
  induction l using Tm.ind with
  | h l ih =>
  intro left w v h0 h1 hin
  obtain ⟨a, cap, b, o, rfl, hl, hp, hc⟩ := hin.open
  clear hin
  have HI := tuck ih
  have HP := tuck hp
  have HC := tuck hc
  clear ih hp hc
  unfold maxLen at hl
  have hls := length_le_sizes l
  by_cases hneg : left < (l.length : Int)
  · go_enter Tryz.func29, Tryz.ntmps29
    go_wp2
    go_ret
    exact ⟨ret_int (szV_not (by omega)).symm, Below.refl _ _⟩
  · have HLS := tuck hls
    clear hls
    go_enter Tryz.func29, Tryz.ntmps29
    go_wp2
    go_loopw [5, 1] (fun i r wr => ∃ (k : Nat) (m : Int), k ≤ l.length ∧ i = .int .i64 k ∧ r = .int .i64 m ∧ 0 ≤ m ∧ m + l.length + sizes (l.take k) = left + k ∧ Below w.heap.size w wr) (fun i _ _ => l.length - (intOf i).toNat)
    case atStart => exact ⟨0, left - l.length, Nat.zero_le _, rfl, rfl, by omega, by simp [sizes], Below.refl _ _⟩
    case round =>
      obtain ⟨k, m, hk, rfl, rfl, hm, hsum, hb⟩ := hrel
      have hlek := length_le_sizes (l.take k)
      rw [List.length_take, Nat.min_eq_left hk] at hlek
      have HS := tuck hsum
      have hm2 : m ≤ 1048576 := by omega
      by_cases hlt : k < l.length
      · have hlti : ((k : Int) < (l.length : Int)) := by omega
        obtain ⟨rfl, _, hbw⟩ := HP.out (by intro e; rw [e] at hlt; simp at hlt)
        obtain ⟨s, c0, c1, c2, hs⟩ := HC.out k hlt
        replace c0 := (hb.cell (p := ⟨b, o + k * 3, none⟩) hbw).trans c0
        replace c1 := (hb.cell (p := ⟨b, o + k * 3 + 1, none⟩) hbw).trans c1
        replace c2 := (hb.cell (p := ⟨b, o + k * 3 + 2, none⟩) hbw).trans c2
        have HB := tuck hb
        have HT := tuck hs
        have HI' := tuck (HI.out k hlt)
        have hstep := sizes_take_succ l k hlt
        have hle2 := sizes_take_rest l (k + 1)
        rw [Tm.size_eq] at hstep
        have HST := tuck hstep
        have HLE := tuck hle2
        clear hb hs HI hlek hsum hstep hle2
        generalize l[k] = x at *
        have HM := tuck (szV_neg (l := x.kids) (left := m))
        have HO := tuck (@szV_of x.kids m)
        have HN := tuck (@szV_not x.kids m)
        go_wp2_with (go_at_call 8; refine (szT_of (t := x) (fun w v g => HI'.out _ w v hm hm2 g) _ _ ⟨s, rfl, HT.out.below HB.out⟩).mono ?_; rintro e w' ⟨rfl, hb'⟩)
        · go_ret
          have h3 := HM.out.1 ‹_›
          have h4 := HS.out
          have h5 := HST.out
          have h6 := HLE.out
          exact ⟨ret_int (szV_not (by omega)).symm, bAfter HB.out hb'⟩
        · have h3 : ¬ szV x.kids m < 0 := by omega
          rw [HM.out] at h3
          have h4 := HS.out
          have h5 := HST.out
          have h7 := HO.out (by omega)
          go_roundw
          case rel =>
            exact ⟨k + 1, _, by omega, by go_num, rfl, by omega, by rw [h7]; omega, bAfter HB.out hb'⟩
          case measure => simp [intOf]; omega
      · have hge2 : ¬ ((k : Int) < (l.length : Int)) := by omega
        have HB := tuck hb
        clear hb hlek hsum
        go_wp2
        go_ret
        have h4 := HS.out
        rw [List.take_of_length_le (by omega)] at h4
        exact ⟨ret_int (by rw [szV_of (by omega)]; omega), HB.out⟩

theorem szT_any (t : Tm) (left : Int) (w : World) (v : Value) (h0 : 0 ≤ left) (h1 : left ≤ 1048576) (h : TmIn w 0 t v) : Calls Tryz.prog 8 #[v, .int .i64 left] w (SzPost w (szV t.kids left)) :=
  szT_of (fun w v g => szS_any _ _ w v h0 h1 g) w v h

theorem info_term : (Tryz.prog.info? 29).map (fun i => (i.zero, i.size, i.bytes)) = some (some (.agg #[.int .i64 0, .int .i64 0, .slice none 0 0]), 3, 40) := by kernel_rfl

/-- What toTermS leaves: a copy in new blocks. -/
def ToPost (w : World) (l : List Tm) (e : Ending) (w' : World) : Prop := ∃ v, e = .returned v ∧ SlIn w' w.heap.size l v ∧ Below w.heap.size w w'
def ToPostT (w : World) (t : Tm) (e : Ending) (w' : World) : Prop := ∃ v, e = .returned v ∧ TmIn w' w.heap.size t v ∧ Below w.heap.size w w'

theorem toT_of {t : Tm} (hk : ∀ (w : World) (v : Value), SlIn w 0 t.kids v → Calls Tryz.prog 32 #[v] w (ToPost w t.kids)) :
    ∀ (w : World) (v : Value), TmIn w 0 t v → Calls Tryz.prog 10 #[v] w (ToPostT w t) := by
  rintro w v ⟨s, rfl, h1⟩
  have HP : Hid (∀ (w' : World) (s' : Value), SlIn w' w.heap.size t.kids s' → Below w.heap.size w w' → ToPostT w t (.returned (.agg #[.int .i64 t.kind, .int .i64 t.num, s'])) w') := fun w' s' h hb => ⟨_, rfl, ⟨s', rfl, h⟩, hb⟩
  generalize ToPostT w t = post at *
  generalize t.kind = k1 at *
  generalize t.num = n1 at *
  have HK := tuck hk
  have H1 := tuck h1
  clear hk h1
  go_enter Tryz.func10, Tryz.ntmps10
  go_wp2_with (go_at_call 32; refine (HK.out _ _ (H1.out.below (below3 _ _ _ _))).mono ?_; rintro e w' ⟨v, rfl, hin, hb⟩; obtain ⟨a, cap, rfl⟩ := hin.form; obtain ⟨hc, hf⟩ := old_cells hb; have hz : w.heap.size + 3 ≤ w'.heap.size := (by have := hb.size; simp at this; omega); have HI := tuck hin; have HB := tuck hb; clear hin hb)
  have h2 : SlIn w' (w.heap.size + 1 + 1 + 1) t.kids (.slice a t.kids.length cap) := HI.out.mono (by simp)
  have hb := bAfter (below3 _ _ _ _) HB.out
  refine bodyPost_ret (v := .agg #[.int .i64 k1, .int .i64 n1, .slice a t.kids.length cap]) (by simp [results, Tryz.results10, go_sem, hc]) rfl (HP.out _ _ ?_ ?_)
  · exact ((((h2.setCell (by simp) _).setCell (by simp) _).setCell (by simp) _).setCell (by simp) _).mono (by omega)
  · exact (((hb.setCell (by simp; omega) _).setCell (by simp) _).setCell (by simp) _).setCell (by simp) _

theorem madeCells_get {z : Array Value} {n i : Nat} (h : i < n) : (madeCells z n)[i]? = some z[i % z.size]! := by
  simp [madeCells, h]

set_option maxRecDepth 100000 in
theorem toS_any : ∀ (l : List Tm) (w : World) (v : Value), sizes l ≤ 1048576 → SlIn w 0 l v → Calls Tryz.prog 32 #[v] w (ToPost w l) := by
  intro l
  induction l using Tm.ind with
  | h l ih =>
  intro w v hsz hin
  obtain ⟨a, cap, b, o, rfl, hl, hp, hc⟩ := hin.open
  clear hin
  have hls := length_le_sizes l
  have HI := tuck ih
  have HP := tuck hp
  have HC := tuck hc
  have HSZ := tuck hsz
  have hlen : l.length ≤ 1048576 := by omega
  clear ih hp hc hl hls hsz
  obtain ⟨i0, hi, hz0, hz1, hz2⟩ := info_parts info_term
  have hmk : ∀ W : World, (Instr.makeSlice 27 (.int .i64 (l.length : Int)) (.int .i64 (l.length : Int))).run Tryz.prog W = .ok (.slice (some ⟨W.heap.size, 0, none⟩) l.length l.length) (W.alloc (.cells (madeCells #[.int .i64 0, .int .i64 0, .slice none 0 0] (l.length * 3)) 29)) := fun W => by
    have h := run_make (P := Tryz.prog) W 27 29 i0 _ Tryz.underlying27 hi hz0 .i64 .i64 (l.length : Int) (l.length : Int) (by omega) (Int.le_refl _) (by rw [hz2]; omega) (by omega)
    rw [hz1] at h
    simpa [Value.cells] using h
  clear hi hz0 hz1 hz2
  go_enter Tryz.func32, Tryz.ntmps32
  go_wp2
  clear hmk
  go_loopw [4] (fun i wr => ∃ k : Nat, k ≤ l.length ∧ i = .int .i64 k ∧ Below w.heap.size w wr ∧ Fill 29 w.heap.size l k wr) (fun i _ => l.length - (intOf i).toNat)
  case atStart =>
    refine ⟨0, Nat.zero_le _, rfl, below1 _ _, ?_⟩
    exact ⟨_, heap_new _ _, size_madeCells _ _, fun j _ h => absurd h (Nat.not_lt_zero _)⟩
  case round =>
    obtain ⟨k, hk, rfl, hb, hf⟩ := hrel
    by_cases hlt : k < l.length
    · have hlti : ((k : Int) < (l.length : Int)) := by omega
      obtain ⟨rfl, _, hbw⟩ := HP.out (by intro e; rw [e] at hlt; simp at hlt)
      obtain ⟨s, c0, c1, c2, hs⟩ := HC.out k hlt
      replace c0 := (hb.cell (p := ⟨b, o + k * 3, none⟩) hbw).trans c0
      replace c1 := (hb.cell (p := ⟨b, o + k * 3 + 1, none⟩) hbw).trans c1
      replace c2 := (hb.cell (p := ⟨b, o + k * 3 + 2, none⟩) hbw).trans c2
      have HB := tuck hb
      have HF := tuck hf
      have HS := tuck hs
      have HI' := tuck (HI.out k hlt)
      have HSZ' : Hid (sizes l[k].kids ≤ 1048576) := by have := kids_get_lt l k hlt; have := HSZ.out; show _ ≤ _; omega
      have HPUT := tuck (fun w' s => Fill.put (T := 29) (g := w.heap.size) (k := k) (l := l) (w := w') (hk := hlt) (s := s))
      clear hb hf hs HI
      generalize l[k] = x at *
      go_wp2_with (go_at_call 10; refine (toT_of (t := x) (fun w v g => HI'.out w v HSZ'.out g) _ _ ⟨s, rfl, HS.out.below HB.out⟩).mono ?_; rintro e w' ⟨v, rfl, ⟨s', rfl, hin⟩, hb'⟩; obtain ⟨a', cap', rfl⟩ := hin.form; have hf' := HF.out.below hb'; obtain ⟨u0, u1, u2, d0, d1, d2, df, _⟩ := hf'.room hlt; have HF' := tuck hf'; have HIN := tuck hin; have HB' := tuck hb'; clear hf' hin hb')
      go_roundw
      case rel =>
        refine ⟨k + 1, by omega, by go_num, ?_, HPUT.out w' _ HF'.out (HIN.out.mono ?_)⟩
        · have := bAfter HB.out HB'.out
          exact ((this.setCell (by simp) _).setCell (by simp) _).setCell (by simp) _
        · exact (block_of_cells HF.out.choose_spec.1).1
      case measure => simp [intOf]; omega
    · have hge2 : ¬ ((k : Int) < (l.length : Int)) := by omega
      have HB := tuck hb
      have HF := tuck hf
      clear hb hf
      go_wp2
      go_ret
      have e : k = l.length := by omega
      subst e
      exact ⟨_, rfl, HF.out.done (by unfold maxLen; omega), HB.out⟩

theorem toT_any (t : Tm) (w : World) (v : Value) (h0 : sizes t.kids ≤ 1048576) (h : TmIn w 0 t v) : Calls Tryz.prog 10 #[v] w (ToPostT w t) :=
  toT_of (fun w v g => toS_any _ w v h0 g) w v h

end Go.Proofs.YteeafpnjpcgfaaaGreat
