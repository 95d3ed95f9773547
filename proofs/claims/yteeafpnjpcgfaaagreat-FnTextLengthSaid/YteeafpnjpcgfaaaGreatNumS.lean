/-
  The model's l1Numeral.
-/
import Derived.Test.YteeafpnjpcgfaaaGreatNode
namespace Go.Proofs.YteeafpnjpcgfaaaGreat
open Go.RowKit

def IsNum (n : Int) (w : World) (e : Ending) (w' : World) : Prop := ∃ v, e = .returned v ∧ TmIn w' w.heap.size (numT n.toNat) v ∧ Below w.heap.size w w'

set_option maxRecDepth 100000 in
theorem lnum_any (m : Nat) (hm : m ≤ 100) (w : World) : Calls Tryz.prog 63 #[.int .i64 m] w (IsNum m w) := by
  go_enter Tryz.func63, Tryz.ntmps63
  go_wp2_with (go_at_call 91; refine (leaf_any _ _ _).mono ?_; rintro e w1 ⟨rfl, hb⟩; obtain ⟨oc, of⟩ := old_cells hb; have hz : w.heap.size < w1.heap.size := (by have := hb.size; simp at this; omega); have HB := tuck hb; clear hb)
  have v0 : VarAt w.heap.size 0 0 (.slice none 0 0) (w1.alloc (.cells #[.int .i64 7, .int .i64 0, .slice none 0 0] 29)) := ((VarAt.new _ _ _ _).below HB.out).below (below1 _ _)
  have v1 : VarAt w1.heap.size 7 0 (.slice none 0 0) (w1.alloc (.cells #[.int .i64 7, .int .i64 0, .slice none 0 0] 29)) := VarAt.new _ _ _ _
  have hb0 : Below w.heap.size w (w1.alloc (.cells #[.int .i64 7, .int .i64 0, .slice none 0 0] 29)) := bAfter (bAfter (below1 _ _) HB.out) (below1 _ _)
  generalize (w1.alloc (.cells #[.int .i64 7, .int .i64 0, .slice none 0 0] 29)) = W0 at *
  have V0 := tuck v0
  have V1 := tuck v1
  have HB0 := tuck hb0
  generalize w1.heap.size = vb at *
  clear v0 v1 hb0 oc of HB
  go_loopw [4] (fun i wr => ∃ (q : Nat) (sa : Option Addr) (sl sc : Nat), q ≤ m ∧ i = .int .i64 q ∧ Below w.heap.size w wr ∧ VarAt w.heap.size 0 0 (.slice none 0 0) wr ∧ VarAt vb (numKind q) 0 (.slice sa sl sc) wr ∧ SlIn wr (vb + 1) (numT q).kids (.slice sa sl sc)) (fun i _ => m - (intOf i).toNat)
  case atStart => exact ⟨0, none, 0, 0, Nat.zero_le _, rfl, HB0.out, V0.out, V1.out, SlIn.nil _ _ _ _⟩
  case round =>
    obtain ⟨q, sa, sl, sc, hq, rfl, hb, hv0, hv1, hown⟩ := hrel
    obtain ⟨z0, a0, a1, a2, af⟩ := hv0.facts
    obtain ⟨z1, b0, b1, b2, bf⟩ := hv1.facts
    have HB := tuck hb
    have HV0 := tuck hv0
    have HV1 := tuck hv1
    have HOWN := tuck hown
    clear hb hv0 hv1 hown
    by_cases hlt : q < m
    · have hlti : ((q : Int) < (m : Int)) := by omega
      have HN : Hid (SlIn (wr.alloc (.cells #[.int .i64 (numKind q), .int .i64 0, .slice sa sl sc] 29)) (vb + 1) [numT q] (.slice (some ⟨wr.heap.size, 0, none⟩) 1 1)) := by
        refine ⟨some ⟨wr.heap.size, 0, none⟩, 1, wr.heap.size, 0, rfl, by simp [maxLen], fun _ => ⟨rfl, z1⟩, ?_⟩
        have h := RowAt.of_list (w := wr.alloc (.cells #[.int .i64 (numKind q), .int .i64 0, .slice sa sl sc] 29)) (B := vb + 1) (r := [(numT q, .slice sa sl sc)]) (b := wr.heap.size) (o := 0) (fun j u hu => by
          rw [Nat.zero_add, World.cell?_alloc_new, ← hu]
          simp [cellsL, numT_kind, numT_num]) (fun x hx => by
          simp only [List.mem_singleton] at hx; subst hx
          exact HOWN.out.below (below1 _ _))
        simpa using h
      go_wp2_with (go_at_call 92; refine (node_any (vb + 1) 8 [numT q] _ _ (by simp) (by simp; omega) (by simp) HN.out).mono ?_; rintro e w2 ⟨s2, rfl, hs2, hb2⟩; obtain ⟨sa2, sc2, rfl⟩ := hs2.form; obtain ⟨oc, of⟩ := old_cells hb2; have hz2 : wr.heap.size < w2.heap.size := (by have := hb2.size; simp at this; omega); have HS2 := tuck hs2; have HB2 := tuck hb2; clear hs2 hb2)
      go_roundw
      case rel =>
        refine ⟨q + 1, sa2, 1, sc2, by omega, by go_num, bSet3 (bAfter HB.out (bAfter (below1 _ _) HB2.out)) (by omega) _ _ _ _ _ _, ?_, ?_, ?_⟩
        · exact ((HV0.out.below (below1 _ _)).below HB2.out).far3 (by omega) _ _ _ _ _ _
        · exact ((HV1.out.below (below1 _ _)).below HB2.out).set
        · exact ((HS2.out.setCell (p := ⟨vb, 0, none⟩) (Nat.lt_succ_self _) _).setCell (p := ⟨vb, 1, none⟩) (Nat.lt_succ_self _) _).setCell (p := ⟨vb, 2, none⟩) (Nat.lt_succ_self _) _
      case measure => simp [intOf]; omega
    · have hge2 : ¬ ((q : Int) < (m : Int)) := by omega
      have e : q = m := by omega
      subst e
      go_wp2
      refine bodyPost_ret (v := .agg #[.int .i64 (numKind q), .int .i64 0, .slice sa sl sc]) (by simp [results, Tryz.results63, go_sem, *]) rfl ⟨_, rfl, ⟨_, by rw [Int.toNat_natCast, numT_kind, numT_num], ?_⟩, bSet3 HB.out (Nat.le_refl _) _ _ _ _ _ _⟩
      rw [Int.toNat_natCast]
      exact (((HOWN.out.setCell (p := ⟨w.heap.size, 0, none⟩) (show w.heap.size < vb + 1 by omega) _).setCell (p := ⟨w.heap.size, 1, none⟩) (show w.heap.size < vb + 1 by omega) _).setCell (p := ⟨w.heap.size, 2, none⟩) (show w.heap.size < vb + 1 by omega) _).mono (show w.heap.size ≤ vb + 1 by omega)

end Go.Proofs.YteeafpnjpcgfaaaGreat
