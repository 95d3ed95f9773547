/-
  spec.l1Any: some valid term in memory of its own; of what was there the reader alone turns.
-/
import Derived.Test.YteeafpnjpcgfaaaGreatDrawT
import Derived.Test.YteeafpnjpcgfaaaGreatNumT
namespace Go.Proofs.YteeafpnjpcgfaaaGreat
open Go.RowKit

theorem leafS_any (k n : Int) (w : World) : Calls Tryz.prog 91 #[.int .i64 k, .int .i64 n] w fun e w' => e = .returned (.agg #[.int .i64 k, .int .i64 n, .slice none 0 0]) ∧ Below w.heap.size w w' := by
  go_enter Tryz.func91, Tryz.ntmps91
  go_wp2
  refine bodyPost_ret (v := .agg #[.int .i64 k, .int .i64 n, .slice none 0 0]) (by simp [results, Tryz.results91, go_sem]) rfl ⟨rfl, below1 _ _⟩

/-- What a draw of a valid term leaves. -/
def AnyPost (g : Nat) (a : Option Addr) (len cap p : Nat) (w : World) (e : Ending) (w' : World) : Prop :=
  ∃ (t : Tm) (s : Value) (F : List Nat) (p' : Nat), e = .returned (.agg #[.int .i64 t.kind, .int .i64 t.num, s]) ∧ SlOwn w' t.kids s F ∧ F.Nodup ∧ (∀ x ∈ F, w.heap.size ≤ x ∧ x < w'.heap.size) ∧ t.Valid ∧ p' ≤ p + 1876 ∧ Rd g a len cap p' w' ∧ Only g w w'

set_option maxRecDepth 100000 in
set_option maxHeartbeats 1600000 in
theorem lany_any {U : Nat → Int} {g b o len cap p : Nat} {a : Option Addr} (w : World) (hlen : len ≤ 2000) (hbg : 0 < len → b ≠ g) (hp : p ≤ 90000) (hrd : Rd g a len cap p w) (hby : Bytes U a b o len w) :
    Calls Tryz.prog 66 #[.pointer (some ⟨g, 0, none⟩)] w (AnyPost g a len cap p w) := by
  have hg := hrd.facts.1
  have HRD := tuck hrd
  have HBY := tuck hby
  have HPOST : Hid (∀ (t : Tm) (w' : World) (s : Value) (F : List Nat) (p' : Nat), SlOwn w' t.kids s F → F.Nodup → (∀ x ∈ F, w.heap.size ≤ x ∧ x < w'.heap.size) → t.Valid → p' ≤ p + 1876 → Rd g a len cap p' w' → Only g w w' → AnyPost g a len cap p w (.returned (.agg #[.int .i64 t.kind, .int .i64 t.num, s])) w') := fun t w' s F p' h1 h2 h3 h4 h5 h6 h7 => ⟨t, s, F, p', rfl, h1, h2, h3, h4, h5, h6, h7⟩
  generalize AnyPost g a len cap p w = post at *
  have HL1 : Hid (DInts (fun i => ([3, 4, 2, 3, 1] : List Int).getD i 0) (w.heap.size + 1) 0 5 ((w.alloc (.cells #[.int .i64 0, .int .i64 0, .slice none 0 0] 29)).alloc (.cells #[.int .i64 3, .int .i64 4, .int .i64 2, .int .i64 3, .int .i64 1] 3))) := by
    have := ints_new [3, 4, 2, 3, 1] (w.alloc (.cells #[.int .i64 0, .int .i64 0, .slice none 0 0] 29)) 3
    rwa [show (w.alloc (.cells #[.int .i64 0, .int .i64 0, .slice none 0 0] 29)).heap.size = w.heap.size + 1 by simp] at this
  have HO0 : Hid (Only g w ((w.alloc (.cells #[.int .i64 0, .int .i64 0, .slice none 0 0] 29)).alloc (.cells #[.int .i64 3, .int .i64 4, .int .i64 2, .int .i64 3, .int .i64 1] 3))) := ((Only.refl g w).alloc _).alloc _
  have HV0 : Hid (VarAt w.heap.size 0 0 (.slice none 0 0) ((w.alloc (.cells #[.int .i64 0, .int .i64 0, .slice none 0 0] 29)).alloc (.cells #[.int .i64 3, .int .i64 4, .int .i64 2, .int .i64 3, .int .i64 1] 3))) := (VarAt.new w 0 0 (.slice none 0 0)).below (below1 _ _)
  clear hrd hby
  go_enter Tryz.func66, Tryz.ntmps66
  go_wp2_with fail
  refine (num_any (N := fun i => ([3, 4, 2, 3, 1] : List Int).getD i 0) (o2 := 0) (n := 5) _ hlen (by omega) (by omega) (by omega) (HRD.out.below (below2 _ _ _)) (HBY.out.below (below2 _ _ _)) hbg HL1.out (by omega)).mono ?_
  rintro e w1 ⟨i1, hi1, he, hrd, ho⟩
  obtain ⟨d, hd⟩ : ∃ d : Int, d = ([3, 4, 2, 3, 1] : List Int).getD i1 0 := ⟨_, rfl⟩
  obtain rfl : e = .returned (.int .i64 d) := by rw [hd]; exact he
  clear he
  have hk := (by decide : ∀ i < 5, 1 ≤ ([3, 4, 2, 3, 1] : List Int).getD i 0 ∧ ([3, 4, 2, 3, 1] : List Int).getD i 0 ≤ 4) i1 hi1
  rw [← hd] at hk
  clear hd
  obtain ⟨hk0, hk1⟩ := hk
  have HY0 := tuck (HV0.out.only ho (by omega))
  have hzr : w.heap.size < w1.heap.size := HY0.out.facts.1
  have HO := tuck (HO0.out.trans ho)
  have HD := tuck (ldraw_any hlen hbg 4 (by omega) d (p + 1) w1 (by omega) (by omega) (by omega) hrd ((HBY.out.below (below2 w _ _)).only ho hbg))
  clear hrd ho HO0 HV0 HL1
  go_wp2_with fail
  refine HD.out.mono ?_
  rintro e w2 ⟨T, ts, G, p2, rfl, hso, hnd, hF, hsz, hp2, hrd, ho⟩
  obtain ⟨ta, tc, rfl⟩ := hso.form
  replace HY0 := tuck (HY0.out.only ho (by omega))
  have hz1 : w.heap.size ≤ w1.heap.size := HO.out.size
  have HGB : Hid (∀ x ∈ G, w1.heap.size ≤ x ∧ x < w2.heap.size) := tuck hF
  have hz2 : w1.heap.size ≤ w2.heap.size := ho.size
  replace HO := tuck (HO.out.trans ho)
  have HR := tuck hrd
  have HP2 : Hid (p2 ≤ p + 1 + 3 * 625) := tuck hp2
  have HSO := tuck hso
  have HND := tuck hnd
  clear hso hnd hF hsz hp2 hrd ho HD
  go_wp2_with fail
  have HV : Hid (∀ W : World, Below w2.heap.size w2 W → Calls Tryz.prog 30 #[.agg #[.int .i64 T.kind, .int .i64 T.num, .slice ta T.kids.length tc]] W (BoolPost W (tr T.Valid))) := fun W h => validS_any T W _ ⟨_, rfl, (HSO.out.sl (B := 0) (fun _ _ => Nat.zero_le _)).below h⟩
  by_cases hT : T.Valid
  · have HTV := tuck hT
    rw [tr_of hT] at HV
    clear hT
    have HPE := tuck (HPOST.out T)
    refine (HV.out _ (below1 _ _)).mono ?_
    rintro e w3 ⟨rfl, hb⟩
    have hbb := bAfter (below1 w2 (.cells #[.int .i64 T.kind, .int .i64 T.num, .slice ta T.kids.length tc] 29)) hb
    have hvt := (VarAt.new w2 T.kind T.num (.slice ta T.kids.length tc)).below hb
    obtain ⟨zt, t0, t1, t2, -⟩ := hvt.facts
    have HY3 := tuck (HY0.out.below hbb)
    obtain ⟨zv, v0, v1, v2, vf⟩ := HY3.out.facts
    have HO3 := tuck (HO.out.of_below hbb)
    have HR3 := tuck (HR.out.below hbb)
    have HSO3 := tuck (HSO.out.below (fun x hx => (HGB.out x hx).2) hbb)
    have hz3 : w2.heap.size ≤ w3.heap.size := hbb.size
    clear hb hbb hvt
    go_wp2_with fail
    refine bodyPost_ret (v := .agg #[.int .i64 T.kind, .int .i64 T.num, .slice ta T.kids.length tc]) (by simp [results, Tryz.results66, go_sem, *]) rfl (HPE.out _ _ G p2 ?_ HND.out (fun x hx => ?_) HTV.out ?_ ?_ ?_)
    · exact HSO3.out.set3 (fun h => by have := (HGB.out _ h).1; omega) _ _ _ _ _ _
    · rw [size_set3]
      have := HGB.out x hx
      omega
    · have := HP2.out
      omega
    · exact ((HR3.out.far (show w.heap.size ≠ g by omega)).far (show w.heap.size ≠ g by omega)).far (show w.heap.size ≠ g by omega)
    · exact ((HO3.out.setCell (Or.inr (Nat.le_refl _)) _).setCell (Or.inr (Nat.le_refl _)) _).setCell (Or.inr (Nat.le_refl _)) _
  · rw [tr_not hT] at HV
    clear hT
    have HPE := tuck (HPOST.out (numT 0))
    refine (HV.out _ (below1 _ _)).mono ?_
    rintro e w3 ⟨rfl, hb⟩
    have hbb := bAfter (below1 w2 (.cells #[.int .i64 T.kind, .int .i64 T.num, .slice ta T.kids.length tc] 29)) hb
    have HY3 := tuck (HY0.out.below hbb)
    have HO3 := tuck (HO.out.of_below hbb)
    have HR3 := tuck (HR.out.below hbb)
    clear hb hbb
    go_wp2_with fail
    refine (leafS_any 7 0 _).mono ?_
    rintro e w4 ⟨rfl, hb⟩
    replace HY3 := tuck (HY3.out.below hb)
    replace HO3 := tuck (HO3.out.of_below hb)
    replace HR3 := tuck (HR3.out.below hb)
    obtain ⟨zv, v0, v1, v2, vf⟩ := HY3.out.facts
    clear hb
    go_wp2_with fail
    refine bodyPost_ret (v := .agg #[.int .i64 7, .int .i64 0, .slice none 0 0]) (by simp [results, Tryz.results66, go_sem, *]) rfl (HPE.out _ _ [] p2 ?_ List.nodup_nil (fun x hx => by cases hx) (valid_numT (by omega)) ?_ ?_ ?_)
    · exact SlOwn.nil _ _ _
    · have := HP2.out
      omega
    · exact ((HR3.out.far (show w.heap.size ≠ g by omega)).far (show w.heap.size ≠ g by omega)).far (show w.heap.size ≠ g by omega)
    · exact ((HO3.out.setCell (Or.inr (Nat.le_refl _)) _).setCell (Or.inr (Nat.le_refl _)) _).setCell (Or.inr (Nat.le_refl _)) _

end Go.Proofs.YteeafpnjpcgfaaaGreat
