/-
  ImplB, Free.
-/
import Derived.Test.YtpddjebdncaceaaGreatQ06
import Derived.Test.YtpddjebdncaceaaGreatQ09
namespace Go.Proofs.YtpddjebdncaceaaGreat
open Go.RowKit
def Size2 (g : Nat) (N D : Int) (w : World) : Prop := w.heap[g]? = some (.cells #[I6 N, I6 D] 118 (0, 0))
theorem Size2.facts {g : Nat} {N D : Int} {w : World} (h : Size2 g N D w) : g < w.heap.size ∧ w.cell? ⟨g, 0, none⟩ = some (I6 N) ∧ w.cell? ⟨g, 1, none⟩ = some (I6 D) ∧ (∀ i, w.frozen? ⟨g, i, none⟩ = false) := by
 obtain ⟨h1, h2, h3⟩ := block_of_cells h
 exact ⟨h1, h2 0, h2 1, h3⟩
theorem Size2.below {g : Nat} {N D : Int} {w w' : World} (h : Size2 g N D w) (k : Below w.heap.size w w') : Size2 g N D w' := (k.block g h.facts.1).trans h
theorem Size2.set {g : Nat} {N D N' D' : Int} {w : World} (h : Size2 g N D w) : Size2 g N' D' ((w.setCell ⟨g, 0, none⟩ (I6 N')).setCell ⟨g, 1, none⟩ (I6 D')) := by
 have := block_set (block_set h 0 (I6 N')) 1 (I6 D')
 simpa [Size2] using this
def AddPost (g : Nat) (t : Tm) (d N D : Int) (w : World) (e : Ending) (w' : World) : Prop :=
 Only g w w' ∧ ∃ (b : Bool) (N' D' : Int), e = .returned (.bool b) ∧ Size2 g N' D' w' ∧ (b = true ↔ Sh t (31 - d) ∧ N + t.size ≤ 400) ∧ (b = true → N' = N + t.size ∧ D' = max D (d - 1 + t.hgt))
set_option maxRecDepth 100000 in
theorem add_any : ∀ (l : List Tm) (k n d N D : Int) (g : Nat) (w0 w : World) (s : Value), 1 ≤ d → d ≤ 31 → 0 ≤ N → N ≤ 400 → -1000 ≤ D → D ≤ 1000 → SlIn w0 0 l s → Below w0.heap.size w0 w → w0.heap.size ≤ g → Size2 g N D w →
  Calls Tryz.prog 120 #[.pointer (some ⟨g, 0, none⟩), .agg #[I6 k, I6 n, s], I6 d] w (AddPost g (.mk k n l) d N D w) := by
 intro l
 induction l using Tm.ind with
 | h l ih =>
 intro k n d N D g w0 w v hd0 hd1 hN0 hN1 hD0 hD1 hin hbw0 hg hsz
 obtain ⟨a, cap, b, o, rfl, hl, hp, hc⟩ := hin.open
 clear hin
 have HI := tuck ih
 have HP := tuck hp
 have HC := tuck hc
 have HB0 := tuck hbw0
 have HG := tuck hg
 have HSZ := tuck hsz
 obtain ⟨hgw, q0, q1, qf⟩ := hsz.facts
 clear ih hp hc hbw0 hg hsz
 unfold maxLen at hl
 by_cases h1 : N = 400
 ·have g1 : (N == 400) = true := by simpa using h1
  have HF : Hid (AddPost g (.mk k n l) d N D w (.returned (.bool false)) (w.alloc (.cells #[I6 k, I6 n, .slice a l.length cap] 34))) :=
   ⟨(Only.refl g w).alloc _, false, N, D, rfl, HSZ.out.below (below1 _ _), ⟨ft, fun h => by have := (Tm.mk k n l).size_pos; have := h.2; omega⟩, ft⟩
  generalize AddPost g (.mk k n l) d N D w = post at *
  go_enter Tryz.func120, Tryz.ntmps120
  go_wp2
  exact HF.out
 have g1 : (N == 400) = false := by simpa using h1
 by_cases h2 : 30 < d
 ·have HF : Hid (AddPost g (.mk k n l) d N D w (.returned (.bool false)) (w.alloc (.cells #[I6 k, I6 n, .slice a l.length cap] 34))) :=
   ⟨(Only.refl g w).alloc _, false, N, D, rfl, HSZ.out.below (below1 _ _), ⟨ft, fun h => by have := (Sh_iff.1 h.1).1; omega⟩, ft⟩
  generalize AddPost g (.mk k n l) d N D w = post at *
  go_enter Tryz.func120, Tryz.ntmps120
  go_wp2
  exact HF.out
 by_cases h3 : RootOk k n l.length
 rotate_left
 ·have HR := tuck (root_any k n a l.length cap)
  rw [tr_not h3] at HR
  have HF : Hid (∀ w', Below w.heap.size w w' → AddPost g (.mk k n l) d N D w (.returned (.bool false)) w') := fun w' hb =>
   ⟨(Only.refl g w).of_below hb, false, N, D, rfl, HSZ.out.below hb, ⟨ft, fun h => absurd (Sh_iff.1 h.1).2.1 h3⟩, ft⟩
  generalize AddPost g (.mk k n l) d N D w = post at *
  clear h3
  go_enter Tryz.func120, Tryz.ntmps120
  go_wp2_with (go_at_call 135; refine (HR.out _).mono ?_; rintro e w' ⟨rfl, hb⟩)
  exact HF.out _ (bAfter (below1 _ _) hb)
 have HR := tuck (root_any k n a l.length cap)
 rw [tr_of h3] at HR
 have H3 := tuck h3
 clear h3
 have hN2 : N ≤ 399 := by omega
 go_enter Tryz.func120, Tryz.ntmps120
 go_wp2_with (go_at_call 135; refine (HR.out _).mono ?_; rintro e w1 ⟨rfl, hb1⟩; obtain ⟨oc, of⟩ := old_cells hb1; have hz1 : w.heap.size < w1.heap.size := (by have := hb1.size; simp at this; omega); have HB1 := tuck hb1; clear hb1)
 ·have HMX : Hid (max D d = d) := by show _ = _; omega
  have hs0 : Size2 g (N + 1) d ((w1.setCell ⟨g, 0, none⟩ (I6 (N + 1))).setCell ⟨g, 1, none⟩ (I6 d)) := (HSZ.out.below (bAfter (below1 _ _) HB1.out)).set
  have ho0 : Only g w ((w1.setCell ⟨g, 0, none⟩ (I6 (N + 1))).setCell ⟨g, 1, none⟩ (I6 d)) := (((Only.refl g w).of_below (bAfter (below1 _ _) HB1.out)).setCell (Or.inl rfl) _).setCell (Or.inl rfl) _
  generalize ((w1.setCell ⟨g, 0, none⟩ (I6 (N + 1))).setCell ⟨g, 1, none⟩ (I6 d)) = W0 at *
  rw [← HMX.out] at hs0
  have HS0 := tuck hs0
  have HO0 := tuck ho0
  clear hs0 ho0 HB1 oc of hz1 HR HMX
  go_loopw [42] (fun i wr => ∃ q : Nat, q ≤ l.length ∧ i = I6 q ∧ Only g w wr ∧ Size2 g (N + 1 + sizes (l.take q)) (max D (d + hgts (l.take q))) wr ∧ (∀ j (hj : j < l.length), j < q → Sh l[j] (30 - d)) ∧ N + 1 + sizes (l.take q) ≤ 400) (fun i _ => l.length - (intOf i).toNat)
  case atStart => exact ⟨0, Nat.zero_le _, rfl, HO0.out, by simpa [sizes, hgts] using HS0.out, fun j _ h => absurd h (Nat.not_lt_zero _), by simp [sizes]; omega⟩
  case round =>
   obtain ⟨q, hq, rfl, ho, hs, hall, hsum⟩ := hrel
   have HALL := tuck hall
   have HSUM := tuck hsum
   clear hall
   by_cases hlt : q < l.length
   ·have hlti : ((q : Int) < (l.length : Int)) := by omega
    have hb := Only.below HB0.out ho HG.out HB0.out.size
    obtain ⟨rfl, _, hbw⟩ := HP.out (by intro e; rw [e] at hlt; simp at hlt)
    obtain ⟨s, c0, c1, c2, hss⟩ := HC.out q hlt
    obtain ⟨sa, sc, rfl⟩ := hss.form
    replace c0 := (hb.cell (p := ⟨b, o + q * 3, none⟩) hbw).trans c0
    replace c1 := (hb.cell (p := ⟨b, o + q * 3 + 1, none⟩) hbw).trans c1
    replace c2 := (hb.cell (p := ⟨b, o + q * 3 + 2, none⟩) hbw).trans c2
    have hst := sizes_take_succ l q hlt
    have hht := hgts_take_succ l q hlt
    have htr := sizes_take_le l (q + 1)
    have HST := tuck hst
    have HHT := tuck hht
    have HTR := tuck htr
    have hh0 : (hgts (l.take q) : Int) ≤ 30 := by
     have hh := (hgts_le (l.take q) 30).2 fun u hu => by
      obtain ⟨j, hj, rfl⟩ := List.getElem_of_mem hu
      rw [List.getElem_take]
      have := (HALL.out j (by simp at hj; omega) (by simp at hj; omega)).2
      omega
     omega
    have HB := tuck hb
    have HO := tuck ho
    have HS := tuck hs
    have HSS := tuck hss
    have HI' := tuck (HI.out q hlt)
    clear hb ho hs hss HI hst hht htr
    generalize hx : l[q] = x at *
    have HX := tuck hx
    clear hx
    have hNq0 : 0 ≤ N + 1 + sizes (l.take q) := by omega
    have hDq0 : -1000 ≤ max D (d + hgts (l.take q)) := by omega
    have hDq1 : max D (d + hgts (l.take q)) ≤ 1000 := by omega
    generalize hN : N + 1 + (sizes (l.take q) : Int) = Nq at *
    generalize hDD : max D (d + (hgts (l.take q) : Int)) = Dq at *
    have HN := tuck hN
    have HDD := tuck hDD
    clear hN hDD hh0
    go_wp2_with (go_at_call 120; refine (HI'.out x.kind x.num (d + 1) Nq Dq g w0 _ _ (by omega) (by omega) (by omega) (by omega) (by omega) (by omega) HSS.out (HB.out.alloc HB.out.size _) HG.out (HS.out.below (below1 _ _))).mono ?_; rintro e w' ⟨ho', bb, N', D', rfl, hs', hiff, himp⟩; have HO' := tuck ho'; have HS' := tuck hs'; have HIFF := tuck hiff; have HIMP := tuck himp; clear ho' hs' hiff himp)
    ·go_ret
     have h3 : bb = false := by simpa using ‹(!bb) = true›
     subst h3
     refine ⟨(HO.out.alloc _).trans HO'.out, false, N', D', rfl, HS'.out, ⟨ft, fun h => ?_⟩, ft⟩
     have h4 := (Sh_iff.1 h.1).2.2 q hlt
     have h5 := HX.out
     have h6 := HST.out
     have h7 := HTR.out
     have h8 := HN.out
     have h9 := h.2
     rw [Tm.size] at h9
     change Sh l[q] _ at h4
     rw [h5] at h4
     exact absurd (HIFF.out.2 ⟨by rw [Tm.eta]; exact (show 31 - d - 1 = 31 - (d + 1) by omega) ▸ h4, by rw [Tm.eta]; omega⟩) (by simp)
    ·have h3 : bb = true := by simpa using ‹(!bb) = false›
     subst h3
     have h4 := HIFF.out.1 rfl
     have h5 := HIMP.out rfl
     rw [Tm.eta] at h4 h5
     go_roundw
     case rel =>
      have h6 := HST.out
      have h7 := HHT.out
      have h8 := HN.out
      have h9 := HDD.out
      refine ⟨q + 1, by omega, by go_num, (HO.out.alloc _).trans HO'.out, ?_, fun j hj hjq => ?_, by omega⟩
      ·have e1 : N + 1 + (sizes (l.take (q + 1)) : Int) = N' := by omega
       have e2 : max D (d + (hgts (l.take (q + 1)) : Int)) = D' := by omega
       rw [e1, e2]
       exact HS'.out
      ·by_cases e : j = q
       ·subst e
        rw [HX.out]
        exact (show 31 - (d + 1) = 30 - d by omega) ▸ h4.1
       ·exact HALL.out j hj (by omega)
     case measure => simp [intOf]; omega
   ·have hge2 : ¬ ((q : Int) < (l.length : Int)) := by omega
    have HO := tuck ho
    have HS := tuck hs
    clear ho hs hsum
    go_wp2
    go_ret
    have h1 := HS.out
    have h2 := HSUM.out
    rw [List.take_of_length_le (by omega)] at h1 h2
    have hsz : (Tm.mk k n l).size = 1 + sizes l := Tm.size_eq _
    have hht : (Tm.mk k n l).hgt = 1 + hgts l := Tm.hgt_eq _
    refine ⟨HO.out, true, _, _, rfl, h1, ⟨fun _ => ⟨Sh_iff.2 ⟨by omega, H3.out, fun j hj => (show 30 - d = 31 - d - 1 by omega) ▸ HALL.out j hj (by change j < l.length at hj; omega)⟩, by omega⟩, fun _ => rfl⟩, fun _ => ⟨by omega, by omega⟩⟩
 ·have HMX : Hid (max D d = D) := by show _ = _; omega
  have hs0 : Size2 g (N + 1) D ((w1.setCell ⟨g, 0, none⟩ (I6 (N + 1))).setCell ⟨g, 1, none⟩ (I6 D)) := (HSZ.out.below (bAfter (below1 _ _) HB1.out)).set
  have ho0 : Only g w ((w1.setCell ⟨g, 0, none⟩ (I6 (N + 1))).setCell ⟨g, 1, none⟩ (I6 D)) := (((Only.refl g w).of_below (bAfter (below1 _ _) HB1.out)).setCell (Or.inl rfl) _).setCell (Or.inl rfl) _
  generalize ((w1.setCell ⟨g, 0, none⟩ (I6 (N + 1))).setCell ⟨g, 1, none⟩ (I6 D)) = W0 at *
  rw [← HMX.out] at hs0
  have HS0 := tuck hs0
  have HO0 := tuck ho0
  clear hs0 ho0 HB1 oc of hz1 HR HMX
  go_loopw [42] (fun i wr => ∃ q : Nat, q ≤ l.length ∧ i = I6 q ∧ Only g w wr ∧ Size2 g (N + 1 + sizes (l.take q)) (max D (d + hgts (l.take q))) wr ∧ (∀ j (hj : j < l.length), j < q → Sh l[j] (30 - d)) ∧ N + 1 + sizes (l.take q) ≤ 400) (fun i _ => l.length - (intOf i).toNat)
  case atStart => exact ⟨0, Nat.zero_le _, rfl, HO0.out, by simpa [sizes, hgts] using HS0.out, fun j _ h => absurd h (Nat.not_lt_zero _), by simp [sizes]; omega⟩
  case round =>
   obtain ⟨q, hq, rfl, ho, hs, hall, hsum⟩ := hrel
   have HALL := tuck hall
   have HSUM := tuck hsum
   clear hall
   by_cases hlt : q < l.length
   ·have hlti : ((q : Int) < (l.length : Int)) := by omega
    have hb := Only.below HB0.out ho HG.out HB0.out.size
    obtain ⟨rfl, _, hbw⟩ := HP.out (by intro e; rw [e] at hlt; simp at hlt)
    obtain ⟨s, c0, c1, c2, hss⟩ := HC.out q hlt
    obtain ⟨sa, sc, rfl⟩ := hss.form
    replace c0 := (hb.cell (p := ⟨b, o + q * 3, none⟩) hbw).trans c0
    replace c1 := (hb.cell (p := ⟨b, o + q * 3 + 1, none⟩) hbw).trans c1
    replace c2 := (hb.cell (p := ⟨b, o + q * 3 + 2, none⟩) hbw).trans c2
    have hst := sizes_take_succ l q hlt
    have hht := hgts_take_succ l q hlt
    have htr := sizes_take_le l (q + 1)
    have HST := tuck hst
    have HHT := tuck hht
    have HTR := tuck htr
    have hh0 : (hgts (l.take q) : Int) ≤ 30 := by
     have hh := (hgts_le (l.take q) 30).2 fun u hu => by
      obtain ⟨j, hj, rfl⟩ := List.getElem_of_mem hu
      rw [List.getElem_take]
      have := (HALL.out j (by simp at hj; omega) (by simp at hj; omega)).2
      omega
     omega
    have HB := tuck hb
    have HO := tuck ho
    have HS := tuck hs
    have HSS := tuck hss
    have HI' := tuck (HI.out q hlt)
    clear hb ho hs hss HI hst hht htr
    generalize hx : l[q] = x at *
    have HX := tuck hx
    clear hx
    have hNq0 : 0 ≤ N + 1 + sizes (l.take q) := by omega
    have hDq0 : -1000 ≤ max D (d + hgts (l.take q)) := by omega
    have hDq1 : max D (d + hgts (l.take q)) ≤ 1000 := by omega
    generalize hN : N + 1 + (sizes (l.take q) : Int) = Nq at *
    generalize hDD : max D (d + (hgts (l.take q) : Int)) = Dq at *
    have HN := tuck hN
    have HDD := tuck hDD
    clear hN hDD hh0
    go_wp2_with (go_at_call 120; refine (HI'.out x.kind x.num (d + 1) Nq Dq g w0 _ _ (by omega) (by omega) (by omega) (by omega) (by omega) (by omega) HSS.out (HB.out.alloc HB.out.size _) HG.out (HS.out.below (below1 _ _))).mono ?_; rintro e w' ⟨ho', bb, N', D', rfl, hs', hiff, himp⟩; have HO' := tuck ho'; have HS' := tuck hs'; have HIFF := tuck hiff; have HIMP := tuck himp; clear ho' hs' hiff himp)
    ·go_ret
     have h3 : bb = false := by simpa using ‹(!bb) = true›
     subst h3
     refine ⟨(HO.out.alloc _).trans HO'.out, false, N', D', rfl, HS'.out, ⟨ft, fun h => ?_⟩, ft⟩
     have h4 := (Sh_iff.1 h.1).2.2 q hlt
     have h5 := HX.out
     have h6 := HST.out
     have h7 := HTR.out
     have h8 := HN.out
     have h9 := h.2
     rw [Tm.size] at h9
     change Sh l[q] _ at h4
     rw [h5] at h4
     exact absurd (HIFF.out.2 ⟨by rw [Tm.eta]; exact (show 31 - d - 1 = 31 - (d + 1) by omega) ▸ h4, by rw [Tm.eta]; omega⟩) (by simp)
    ·have h3 : bb = true := by simpa using ‹(!bb) = false›
     subst h3
     have h4 := HIFF.out.1 rfl
     have h5 := HIMP.out rfl
     rw [Tm.eta] at h4 h5
     go_roundw
     case rel =>
      have h6 := HST.out
      have h7 := HHT.out
      have h8 := HN.out
      have h9 := HDD.out
      refine ⟨q + 1, by omega, by go_num, (HO.out.alloc _).trans HO'.out, ?_, fun j hj hjq => ?_, by omega⟩
      ·have e1 : N + 1 + (sizes (l.take (q + 1)) : Int) = N' := by omega
       have e2 : max D (d + (hgts (l.take (q + 1)) : Int)) = D' := by omega
       rw [e1, e2]
       exact HS'.out
      ·by_cases e : j = q
       ·subst e
        rw [HX.out]
        exact (show 31 - (d + 1) = 30 - d by omega) ▸ h4.1
       ·exact HALL.out j hj (by omega)
     case measure => simp [intOf]; omega
   ·have hge2 : ¬ ((q : Int) < (l.length : Int)) := by omega
    have HO := tuck ho
    have HS := tuck hs
    clear ho hs hsum
    go_wp2
    go_ret
    have h1 := HS.out
    have h2 := HSUM.out
    rw [List.take_of_length_le (by omega)] at h1 h2
    have hsz : (Tm.mk k n l).size = 1 + sizes l := Tm.size_eq _
    have hht : (Tm.mk k n l).hgt = 1 + hgts l := Tm.hgt_eq _
    refine ⟨HO.out, true, _, _, rfl, h1, ⟨fun _ => ⟨Sh_iff.2 ⟨by omega, H3.out, fun j hj => (show 30 - d = 31 - d - 1 by omega) ▸ HALL.out j hj (by change j < l.length at hj; omega)⟩, by omega⟩, fun _ => rfl⟩, fun _ => ⟨by omega, by omega⟩⟩
theorem valid_iff (t : Tm) : t.Valid ↔ Sh t 30 ∧ t.size ≤ 400 := by
 unfold Tm.Valid Sh
 constructor
 ·rintro ⟨h1, h2, h3⟩; exact ⟨⟨h1, by omega⟩, h3⟩
 ·rintro ⟨⟨h1, h2⟩, h3⟩; exact ⟨h1, by omega, h3⟩
noncomputable def measured (t : Tm) : Value := @ite _ t.Valid (Classical.propDecidable _) (.tuple #[.agg #[I6 t.size, I6 t.hgt], .bool true]) (.tuple #[.agg #[I6 0, I6 0], .bool false])
theorem measured_yes {t : Tm} (h : t.Valid) : measured t = .tuple #[.agg #[I6 t.size, I6 t.hgt], .bool true] := by unfold measured; rw [if_pos h]
theorem measured_no {t : Tm} (h : ¬ t.Valid) : measured t = .tuple #[.agg #[I6 0, I6 0], .bool false] := by unfold measured; rw [if_neg h]
def ValPost (w : World) (v : Value) (e : Ending) (w' : World) : Prop := e = .returned v ∧ Below w.heap.size w w'
set_option maxRecDepth 100000 in
theorem measure_any (t : Tm) (w : World) (v : Value) (h : TmIn w 0 t v) : Calls Tryz.prog 87 #[v] w (ValPost w (measured t)) := by
 obtain ⟨s, rfl, hs⟩ := h
 obtain ⟨sa, sc, rfl⟩ := hs.form
 have HS := tuck hs
 clear hs
 have HY : Hid (∀ (b : Bool) (N' D' : Int), (b = true ↔ Sh t (31 - 1) ∧ 0 + (t.size : Int) ≤ 400) → (b = true → N' = 0 + t.size ∧ D' = max (0 : Int) (1 - 1 + (t.hgt : Int))) → measured t = if b = true then .tuple #[.agg #[I6 N', I6 D'], .bool true] else .tuple #[.agg #[I6 0, I6 0], .bool false]) := by
  intro b N' D' h1 h2
  have hv := valid_iff t
  cases b
  ·rw [measured_no (fun h => by have := h1.2 ⟨(hv.1 h).1, by have := (hv.1 h).2; omega⟩; cases this)]; rfl
  ·have h3 := h1.1 rfl
   obtain ⟨rfl, rfl⟩ := h2 rfl
   rw [measured_yes (hv.2 ⟨h3.1, by omega⟩), if_pos rfl, show max 0 (1 - 1 + (t.hgt : Int)) = t.hgt by omega, Int.zero_add]
 have HA : Hid (∀ (w1 : World) (g : Nat), Below w.heap.size w w1 → w.heap.size ≤ g → Size2 g 0 0 w1 → Calls Tryz.prog 120 #[.pointer (some ⟨g, 0, none⟩), .agg #[I6 t.kind, I6 t.num, .slice sa t.kids.length sc], I6 1] w1 (AddPost g t 1 0 0 w1)) := by
  intro w1 g hb hg hz
  have h := add_any t.kids t.kind t.num 1 0 0 g w w1 _ (by omega) (by omega) (by omega) (by omega) (by omega) (by omega) HS.out hb hg hz
  rwa [Tm.eta] at h
 go_enter Tryz.func87, Tryz.ntmps87
 go_wp2_with fail
 have hb : Below w.heap.size w (((w.alloc (.cells #[I6 t.kind, I6 t.num, .slice sa t.kids.length sc] 34)).alloc (.cells #[I6 0, I6 0] 118)).alloc (.cells #[I6 0, I6 0] 118)) := below3 _ _ _ _
 have hz : Size2 (w.heap.size + 1 + 1) 0 0 (((w.alloc (.cells #[I6 t.kind, I6 t.num, .slice sa t.kids.length sc] 34)).alloc (.cells #[I6 0, I6 0] 118)).alloc (.cells #[I6 0, I6 0] 118)) := by
  have := heap_new ((w.alloc (.cells #[I6 t.kind, I6 t.num, .slice sa t.kids.length sc] 34)).alloc (.cells #[I6 0, I6 0] 118)) (.cells #[I6 0, I6 0] 118)
  simpa [Size2] using this
 have hc0 : (((w.alloc (.cells #[I6 t.kind, I6 t.num, .slice sa t.kids.length sc] 34)).alloc (.cells #[I6 0, I6 0] 118)).alloc (.cells #[I6 0, I6 0] 118)).cell? ⟨w.heap.size + 1, 0, none⟩ = some (I6 0) := by go_simp
 have hc1 : (((w.alloc (.cells #[I6 t.kind, I6 t.num, .slice sa t.kids.length sc] 34)).alloc (.cells #[I6 0, I6 0] 118)).alloc (.cells #[I6 0, I6 0] 118)).cell? ⟨w.heap.size + 1, 1, none⟩ = some (I6 0) := by go_simp
 have hf0 : (((w.alloc (.cells #[I6 t.kind, I6 t.num, .slice sa t.kids.length sc] 34)).alloc (.cells #[I6 0, I6 0] 118)).alloc (.cells #[I6 0, I6 0] 118)).frozen? ⟨w.heap.size + 1, 0, none⟩ = false := by go_simp
 have hf1 : (((w.alloc (.cells #[I6 t.kind, I6 t.num, .slice sa t.kids.length sc] 34)).alloc (.cells #[I6 0, I6 0] 118)).alloc (.cells #[I6 0, I6 0] 118)).frozen? ⟨w.heap.size + 1, 1, none⟩ = false := by go_simp
 have hlt : w.heap.size + 1 < (((w.alloc (.cells #[I6 t.kind, I6 t.num, .slice sa t.kids.length sc] 34)).alloc (.cells #[I6 0, I6 0] 118)).alloc (.cells #[I6 0, I6 0] 118)).heap.size := by simp
 generalize (((w.alloc (.cells #[I6 t.kind, I6 t.num, .slice sa t.kids.length sc] 34)).alloc (.cells #[I6 0, I6 0] 118)).alloc (.cells #[I6 0, I6 0] 118)) = W0 at *
 refine (HA.out W0 _ hb (by omega) hz).mono ?_
 rintro e w1 ⟨ho, bb, N', D', rfl, hs', hiff, himp⟩
 have d0 := (ho.cell (p := ⟨w.heap.size + 1, 0, none⟩) hlt (by show w.heap.size + 1 ≠ w.heap.size + 1 + 1; omega)).trans hc0
 have d1 := (ho.cell (p := ⟨w.heap.size + 1, 1, none⟩) hlt (by show w.heap.size + 1 ≠ w.heap.size + 1 + 1; omega)).trans hc1
 have e0 := (ho.frozen (p := ⟨w.heap.size + 1, 0, none⟩) hlt (by show w.heap.size + 1 ≠ w.heap.size + 1 + 1; omega)).trans hf0
 have e1 := (ho.frozen (p := ⟨w.heap.size + 1, 1, none⟩) hlt (by show w.heap.size + 1 ≠ w.heap.size + 1 + 1; omega)).trans hf1
 obtain ⟨hq, q0, q1, qf⟩ := hs'.facts
 have hb1 : Below w.heap.size w w1 := Only.below hb ho (by omega) hb.size
 have hY := HY.out bb N' D' hiff himp
 have HB1 := tuck hb1
 have HYY := tuck hY
 clear hb hz hc0 hc1 hf0 hf1 hlt ho hs' hiff himp hb1 hY HA HY
 generalize measured t = res at *
 cases bb
 ·go_wp2
  refine bodyPost_ret (v := .tuple #[.agg #[I6 0, I6 0], .bool false]) (by simp [results, Tryz.results87, go_sem, *]) rfl ⟨by rw [HYY.out]; rfl, ?_⟩
  exact (HB1.out.setCell (by simp) _).setCell (by simp) _
 ·go_wp2
  refine bodyPost_ret (v := .tuple #[.agg #[I6 N', I6 D'], .bool true]) (by simp [results, Tryz.results87, go_sem, *]) rfl ⟨by rw [HYY.out]; rfl, ?_⟩
  exact (HB1.out.setCell (by simp) _).setCell (by simp) _
end Go.Proofs.YtpddjebdncaceaaGreat
namespace Go.Proofs.YtpddjebdncaceaaGreat
open Go.RowKit
theorem validI_any (t : Tm) (w : World) (v : Value) (h : TmIn w 0 t v) : Calls Tryz.prog 51 #[v] w (BoolPost w (tr t.Valid)) := by
 obtain ⟨s, rfl, hs⟩ := h
 have HS := tuck hs
 clear hs
 have hm := fun w s => measure_any t w (.agg #[I6 t.kind, I6 t.num, s])
 have HM : Hid (∀ (w : World), SlIn w 0 t.kids s → Calls Tryz.prog 87 #[.agg #[I6 t.kind, I6 t.num, s]] w (ValPost w (measured t))) := fun w h => measure_any t w _ ⟨s, rfl, h⟩
 by_cases hv : t.Valid
 ·rw [measured_yes hv] at HM
  rw [tr_of hv]
  go_enter Tryz.func51, Tryz.ntmps51
  go_wp2_with (go_at_call 87; refine (HM.out _ (HS.out.below (below1 _ _))).mono ?_; rintro e w1 ⟨rfl, hb1⟩; obtain ⟨oc, of⟩ := old_cells hb1; have HB1 := tuck hb1; clear hb1)
  go_ret
  exact ⟨rfl, (bAfter (below1 _ _) HB1.out).alloc (bAfter (below1 _ _) HB1.out).size _⟩
 ·rw [measured_no hv] at HM
  rw [tr_not hv]
  go_enter Tryz.func51, Tryz.ntmps51
  go_wp2_with (go_at_call 87; refine (HM.out _ (HS.out.below (below1 _ _))).mono ?_; rintro e w1 ⟨rfl, hb1⟩; obtain ⟨oc, of⟩ := old_cells hb1; have HB1 := tuck hb1; clear hb1)
  go_ret
  exact ⟨rfl, (bAfter (below1 _ _) HB1.out).alloc (bAfter (below1 _ _) HB1.out).size _⟩
end Go.Proofs.YtpddjebdncaceaaGreat
namespace Go.Proofs.YtpddjebdncaceaaGreat
open Go.RowKit
theorem Step.setCell {M M' : Nat → Prop} {a b : World} (h : Step M a b M') {p : Addr} (hp : M' p.block) (u : Value) : Step M a (b.setCell p u) M' :=
 h.trans ⟨rfl, rfl, rfl, by simp [World.setCell], fun i _ hn => Below.heap_setCell b p u i (fun e => hn (by rw [e]; exact hp)), fun _ _ h => h, fun i hi => by simpa [World.setCell] using h.lt i hi⟩
def UseFree {S : Type} (w0 : World) (M0 : Nat → Prop) (St : S → (Nat → Prop) → World → Prop) (f : FuncId) (cs : Array Value) (g : S → Int → S) : Prop :=
 ∀ (w : World) (s : S) (M : Nat → Prop) (i : Int), Step M0 w0 w M → St s M w → 0 ≤ i → i ≤ 20 → Calls Tryz.prog f (#[I6 i] ++ cs) w fun e w' => e = .returned (.tuple #[]) ∧ ∃ M', Step M w w' M' ∧ St (g s i) M' w'
theorem root_num {t : Tm} (h : t.rootOk) : 0 ≤ t.num ∧ t.num ≤ 20 := by
 have h1 := h.2
 unfold mostN at h1
 split at h1
 ·omega
 ·split at h1 <;> omega
set_option maxRecDepth 100000 in
theorem eachFree1_ok {S : Type} {u0 w0 : World} {M0 : Nat → Prop} {St : S → (Nat → Prop) → World → Prop} {f : FuncId} {cs : Array Value} {g : S → Int → S} {gu : Nat}
  (hSt : ∀ s M w w', St s M w → Below w.heap.size w w' → St s M w')
  (hcf : ∀ (args : Array Value) (w : World), (callFunc f args).run Tryz.prog w = .ok (.enter f args) w) (hgu : gu < w0.heap.size) (hgm : ¬ M0 gu) (hgc : w0.cell? ⟨gu, 0, none⟩ = some (.func (.func f) #[] cs))
  (hU : UseFree w0 M0 St f cs g) : UseOk 200 21 u0 w0 M0 St 95 #[.pointer (some ⟨gu, 0, none⟩)] (freeStep g) := by
 intro w s M x v b d hstep hst hroot _ hin hb hb1 hd hd1
 obtain ⟨a, cap, rfl⟩ := hin.form
 obtain ⟨hn0, hn1⟩ := root_num hroot
 have HF := tuck (freeOf_any b d x.kind x.num (.slice a x.kids.length cap) ((w.alloc (.cells #[I6 x.kind, I6 x.num, .slice a x.kids.length cap] 34)).alloc (.cells #[I6 b, I6 d] 133)) hb (by omega) hn0 (by omega))
 have hcu := (hstep.cell (p := ⟨gu, 0, none⟩) hgu hgm).trans hgc
 have hgw : gu < w.heap.size := Nat.lt_of_lt_of_le hgu hstep.size
 have HSTEP := tuck hstep
 have HST := tuck hst
 have HSt := tuck hSt
 have HU := tuck hU
 clear hstep hst hSt hU hin hroot
 show Calls Tryz.prog _ #[.agg #[I6 x.kind, I6 x.num, .slice a x.kids.length cap], .agg #[I6 b, I6 d], .pointer (some ⟨gu, 0, none⟩)] w _
 by_cases hk : x.kind = 1 ∧ b ≤ x.num
 ·have HE : Hid (freeRes x.kind x.num b = .tuple #[I6 (x.num - b), .bool true]) := if_pos hk
  have HG : Hid (freeStep g s x b d = some (g s (x.num - b))) := by show _ = _; unfold freeStep; rw [if_pos hk]
  rw [HE.out] at HF
  have hi0 : 0 ≤ x.num - b := by omega
  have hi1 : x.num - b ≤ 20 := by omega
  clear hk HE
  have HP : Hid (∀ M' w', Step M w w' M' → St (g s (x.num - b)) M' w' → UsePost St M w (freeStep g s x b d) (.returned (.bool true)) w') := fun M' w' h1 h2 => ⟨M', h1, by rw [HG.out]; rfl, fun s' h => by rw [HG.out] at h; cases h; exact h2⟩
  generalize UsePost St M w (freeStep g s x b d) = post at *
  generalize x.num - b = i at *
  go_enter Tryz.func95, Tryz.ntmps95
  go_wp2_with fail
  refine HF.out.mono ?_
  rintro e w1 ⟨rfl, hb1⟩
  have hb2 := bAfter (below2 _ _ _) hb1
  have hcu1 := (hb2.cell (p := ⟨gu, 0, none⟩) hgw).trans hcu
  have HB2 := tuck hb2
  clear hb1 hb2 hcu HF
  go_wp2_with fail
  refine (HU.out _ s M i (HSTEP.out.and HB2.out) (HSt.out _ _ _ _ HST.out HB2.out) hi0 hi1).mono ?_
  rintro e w2 ⟨rfl, M2, h1, h2⟩
  have H1 := tuck h1
  have H2 := tuck h2
  clear h1 h2
  go_wp2_with fail
  exact HP.out _ _ ((Step.of_below HB2.out HSTEP.out.lt).trans H1.out) H2.out
 ·have HE : Hid (freeRes x.kind x.num b = .tuple #[I6 0, .bool false]) := if_neg hk
  have HG : Hid (freeStep g s x b d = some s) := by show _ = _; unfold freeStep; rw [if_neg hk]
  rw [HE.out] at HF
  clear hk HE
  have HP : Hid (∀ M' w', Step M w w' M' → St s M' w' → UsePost St M w (freeStep g s x b d) (.returned (.bool true)) w') := fun M' w' h1 h2 => ⟨M', h1, by rw [HG.out]; rfl, fun s' h => by rw [HG.out] at h; cases h; exact h2⟩
  generalize UsePost St M w (freeStep g s x b d) = post at *
  go_enter Tryz.func95, Tryz.ntmps95
  go_wp2_with fail
  refine HF.out.mono ?_
  rintro e w1 ⟨rfl, hb1⟩
  have HB2 := tuck (bAfter (below2 _ _ _) hb1)
  clear hb1 hcu HF
  go_wp2_with fail
  exact HP.out _ _ (Step.of_below HB2.out HSTEP.out.lt) (HSt.out _ _ _ _ HST.out HB2.out)
theorem box3_below {w w' : World} {g : Nat} {k n : Int} {v : Value} (h : g < w.heap.size ∧ w.cell? ⟨g, 0, none⟩ = some (I6 k) ∧ w.cell? ⟨g, 1, none⟩ = some (I6 n) ∧ w.cell? ⟨g, 2, none⟩ = some v) (hb : Below w.heap.size w w') :
  g < w'.heap.size ∧ w'.cell? ⟨g, 0, none⟩ = some (I6 k) ∧ w'.cell? ⟨g, 1, none⟩ = some (I6 n) ∧ w'.cell? ⟨g, 2, none⟩ = some v :=
 ⟨Nat.lt_of_lt_of_le h.1 hb.size, (hb.cell (p := ⟨g, 0, none⟩) h.1).trans h.2.1, (hb.cell (p := ⟨g, 1, none⟩) h.1).trans h.2.2.1, (hb.cell (p := ⟨g, 2, none⟩) h.1).trans h.2.2.2⟩
theorem box3_step {w w' : World} {M M' : Nat → Prop} {g : Nat} {k n : Int} {v : Value} (h : g < w.heap.size ∧ w.cell? ⟨g, 0, none⟩ = some (I6 k) ∧ w.cell? ⟨g, 1, none⟩ = some (I6 n) ∧ w.cell? ⟨g, 2, none⟩ = some v) (hb : Step M w w' M') (hn : ¬ M g) :
  g < w'.heap.size ∧ w'.cell? ⟨g, 0, none⟩ = some (I6 k) ∧ w'.cell? ⟨g, 1, none⟩ = some (I6 n) ∧ w'.cell? ⟨g, 2, none⟩ = some v :=
 ⟨Nat.lt_of_lt_of_le h.1 hb.size, (hb.cell (p := ⟨g, 0, none⟩) h.1 hn).trans h.2.1, (hb.cell (p := ⟨g, 1, none⟩) h.1 hn).trans h.2.2.1, (hb.cell (p := ⟨g, 2, none⟩) h.1 hn).trans h.2.2.2⟩
set_option maxRecDepth 100000 in
theorem eachFree_any {S : Type} {u0 w : World} {M : Nat → Prop} {St : S → (Nat → Prop) → World → Prop} {f : FuncId} {cs : Array Value} {g : S → Int → S} {s s' : S} (t : Tm) (v : Value)
  (hSt : ∀ s M w w', St s M w → Below w.heap.size w w' → St s M w') (hu : Below u0.heap.size u0 w) (hM : ∀ i, M i → u0.heap.size ≤ i) (hMl : ∀ i, M i → i < w.heap.size)
  (hcf : ∀ (args : Array Value) (w : World), (callFunc f args).run Tryz.prog w = .ok (.enter f args) w) (hU : UseFree w M St f cs g) (hst : St s M w) (hok : t.allOk) (hh : t.hgt ≤ 100) (hin : TmIn u0 0 t v)
  (hr : t.trav (freeStep g) 0 1 s = some s') :
  Calls Tryz.prog 56 #[v, .func (.func f) #[] cs] w fun e w' => e = .returned (.tuple #[]) ∧ ∃ M', Step M w w' M' ∧ St s' M' w' := by
 obtain ⟨sv, rfl, hs⟩ := hin
 obtain ⟨a, cap, rfl⟩ := hs.form
 have hb2 : Below w.heap.size w ((w.alloc (.cells #[I6 t.kind, I6 t.num, .slice a t.kids.length cap] 34)).alloc (.cells #[.func (.func f) #[] cs] 91)) := below2 _ _ _
 have hgc : ((w.alloc (.cells #[I6 t.kind, I6 t.num, .slice a t.kids.length cap] 34)).alloc (.cells #[.func (.func f) #[] cs] 91)).cell? ⟨w.heap.size + 1, 0, none⟩ = some (.func (.func f) #[] cs) := by go_simp
 have hz1 : w.heap.size + 1 < ((w.alloc (.cells #[I6 t.kind, I6 t.num, .slice a t.kids.length cap] 34)).alloc (.cells #[.func (.func f) #[] cs] 91)).heap.size := by simp
 have hbox : w.heap.size < ((w.alloc (.cells #[I6 t.kind, I6 t.num, .slice a t.kids.length cap] 34)).alloc (.cells #[.func (.func f) #[] cs] 91)).heap.size ∧
   ((w.alloc (.cells #[I6 t.kind, I6 t.num, .slice a t.kids.length cap] 34)).alloc (.cells #[.func (.func f) #[] cs] 91)).cell? ⟨w.heap.size, 0, none⟩ = some (I6 t.kind) ∧
   ((w.alloc (.cells #[I6 t.kind, I6 t.num, .slice a t.kids.length cap] 34)).alloc (.cells #[.func (.func f) #[] cs] 91)).cell? ⟨w.heap.size, 1, none⟩ = some (I6 t.num) ∧
   ((w.alloc (.cells #[I6 t.kind, I6 t.num, .slice a t.kids.length cap] 34)).alloc (.cells #[.func (.func f) #[] cs] 91)).cell? ⟨w.heap.size, 2, none⟩ = some (.slice a t.kids.length cap) := by
  refine ⟨by simp; omega, by go_simp, by go_simp, by go_simp⟩
 have hnm : ¬ M w.heap.size := fun h => Nat.lt_irrefl _ (hMl _ h)
 have hnm1 : ¬ M (w.heap.size + 1) := fun h => by have := hMl _ h; omega
 have hhh : 1 + hgts t.kids ≤ 100 := by rw [← t.hgt_eq]; exact hh
 have HE : Hid (∀ w1, Below ((w.alloc (.cells #[I6 t.kind, I6 t.num, .slice a t.kids.length cap] 34)).alloc (.cells #[.func (.func f) #[] cs] 91)).heap.size ((w.alloc (.cells #[I6 t.kind, I6 t.num, .slice a t.kids.length cap] 34)).alloc (.cells #[.func (.func f) #[] cs] 91)) w1 →
   Calls Tryz.prog 93 #[.agg #[I6 t.kind, I6 t.num, .slice a t.kids.length cap], .agg #[I6 0, I6 1], .func (.func 95) #[] #[.pointer (some ⟨w.heap.size + 1, 0, none⟩)]] w1 (UsePost St M w1 (t.trav (freeStep g) 0 1 s))) := by
  intro w1 hb1
  have huse := eachFree1_ok (u0 := u0) (w0 := ((w.alloc (.cells #[I6 t.kind, I6 t.num, .slice a t.kids.length cap] 34)).alloc (.cells #[.func (.func f) #[] cs] 91))) (M0 := M) (St := St) (g := g) (gu := w.heap.size + 1) hSt hcf hz1 hnm1 hgc (fun w' s M' i h1 h2 h3 h4 => hU w' s M' i ((Step.of_below hb2 hMl).trans h1) h2 h3 h4)
  have h := each_any (D := 200) (L := 21) (by omega) hSt (bAfter hu hb2) hM (fun _ _ => by kernel_rfl) huse t.kids t.kind t.num 0 1 w1 s M _ (Step.of_below hb1 (fun i hi => Nat.lt_of_lt_of_le (hMl i hi) hb2.size)) (hSt _ _ _ _ (hSt _ _ _ _ hst hb2) hb1) (by rw [Tm.eta]; exact hok) (by rw [Tm.eta]; exact (t.most_bd 0 hok (Int.le_refl 0)).2) hs (by omega) (by omega) (by omega) (by omega)
  rwa [Tm.eta] at h
 have HP : Hid (∀ w1 w' M', Below w.heap.size w w1 → Step M w1 w' M' → (∀ s1, some s' = some s1 → St s1 M' w') → (∃ M', Step M w w' M' ∧ St s' M' w')) := fun w1 w' M' h0 h1 h2 => ⟨M', (Step.of_below h0 hMl).trans h1, h2 s' rfl⟩
 rw [hr] at HE
 have HNM := tuck hnm
 have HB2 := tuck hb2
 have HBOX := tuck hbox
 clear hst hok hh hs hr hU hM hMl hcf hnm hnm1 hgc hz1 hhh hSt hb2 hbox
 go_enter Tryz.func56, Tryz.ntmps56
 go_wp2_with fail
 obtain ⟨z0, b0, b1, b2⟩ := HBOX.out
 generalize ((w.alloc (.cells #[I6 t.kind, I6 t.num, .slice a t.kids.length cap] 34)).alloc (.cells #[.func (.func f) #[] cs] 91)) = W0 at *
 go_region_held3 (fun w' => w.heap.size < w'.heap.size ∧ w'.cell? ⟨w.heap.size, 0, none⟩ = some (I6 t.kind) ∧ w'.cell? ⟨w.heap.size, 1, none⟩ = some (I6 t.num) ∧ w'.cell? ⟨w.heap.size, 2, none⟩ = some (.slice a t.kids.length cap)) (first | exact HBOX.out | exact box3_step (by assumption) hs3 HNM.out | exact box3_below (by assumption) hb1) (first | (go_at_call 94; refine (rootSpot_any _).mono ?_; rintro e w1 ⟨rfl, hb1⟩) | (go_at_call 93; refine (HE.out _ (bAfter (Below.refl _ _).drew hb1)).mono ?_; rintro e w3 ⟨M3, hs3, rfl, hst3⟩))
 all_goals (try go_wp2_with fail)
 all_goals (go_end0; exact ⟨rfl, HP.out w1 w3 M3 (bAfter HB2.out (bAfter (Below.refl _ _).drew hb1)) hs3 hst3⟩)
def IdxAt (c : Nat) (s : Int) (M : Nat → Prop) (w : World) : Prop := w.heap[c]? = some (.cells #[I6 s] 89 (0, 0)) ∧ M = fun i => i = c
theorem IdxAt.below {c : Nat} : ∀ (s : Int) (M : Nat → Prop) (w w' : World), IdxAt c s M w → Below w.heap.size w w' → IdxAt c s M w' := fun _ _ _ _ h hb => ⟨(hb.block c (block_of_cells h.1).1).trans h.1, h.2⟩
theorem most1_ok {w0 : World} {c : Nat} : UseFree w0 (fun i => i = c) (fun s M w => IdxAt c s M w ∧ 0 ≤ s ∧ s ≤ 21) 57 #[.pointer (some ⟨c, 0, none⟩)] mostUse := by
 intro w s M i hstep hst hi0 hi1
 obtain ⟨⟨hcell, rfl⟩, hs0, hs1⟩ := hst
 obtain ⟨z, e0, ef⟩ := block_of_cells hcell
 have c0 : w.cell? ⟨c, 0, none⟩ = some (I6 s) := e0 0
 have f0 := ef 0
 have hset := block_set hcell 0 (I6 (mostUse s i))
 have HI : Hid (∀ w', w' = w.setCell ⟨c, 0, none⟩ (I6 (mostUse s i)) → ∃ M', Step (fun i => i = c) w w' M' ∧ IdxAt c (mostUse s i) M' w' ∧ 0 ≤ mostUse s i ∧ mostUse s i ≤ 21) := fun w' h => by
  subst h
  exact ⟨_, (Step.refl hstep.lt).setCell rfl _, ⟨by simpa using hset, rfl⟩, by unfold mostUse; omega, by unfold mostUse; omega⟩
 clear hcell hstep e0 ef hset
 unfold mostUse at *
 show Calls Tryz.prog _ #[I6 i, .pointer (some ⟨c, 0, none⟩)] w _
 go_enter Tryz.func57, Tryz.ntmps57
 go_wp2
 all_goals (go_end0; exact ⟨rfl, HI.out _ (by first | rw [show max s (i + 1) = s by omega] | rw [show max s (i + 1) = i + 1 by omega])⟩)
set_option maxRecDepth 100000 in
theorem maxFreeI_any (t : Tm) (w : World) (v : Value) (h : TmIn w 0 t v) : Calls Tryz.prog 24 #[v] w (IntPost w (maxFreeOf t)) := by
 obtain ⟨s, rfl, hs⟩ := h
 obtain ⟨a, cap, rfl⟩ := hs.form
 have HV : Hid (∀ w', Below w.heap.size w w' → Calls Tryz.prog 51 #[.agg #[I6 t.kind, I6 t.num, .slice a t.kids.length cap]] w' (BoolPost w' (tr t.Valid))) := fun w' h => validI_any t w' _ ⟨_, rfl, hs.below h⟩
 by_cases hv : t.Valid
 ·have HR := tuck (most_trav hv)
  rw [tr_of hv] at HV
  have HE : Hid (∀ (w1 : World) (c : Nat), Below w.heap.size w w1 → w.heap.size ≤ c → w1.heap[c]? = some (.cells #[I6 0] 89 (0, 0)) →
    Calls Tryz.prog 56 #[.agg #[I6 t.kind, I6 t.num, .slice a t.kids.length cap], .func (.func 57) #[] #[.pointer (some ⟨c, 0, none⟩)]] w1
     fun e w' => e = .returned (.tuple #[]) ∧ ∃ M', Step (fun i => i = c) w1 w' M' ∧ (IdxAt c (maxFreeOf t) M' w' ∧ 0 ≤ maxFreeOf t ∧ maxFreeOf t ≤ 21)) := fun w1 c hb hc hcc =>
   eachFree_any t _ (fun s M w w' h hb => ⟨IdxAt.below s M w w' h.1 hb, h.2⟩) hb (fun i hi => by rw [hi]; exact hc) (fun i hi => by rw [hi]; exact (block_of_cells hcc).1) (fun _ _ => by kernel_rfl) most1_ok ⟨⟨hcc, rfl⟩, by omega, by omega⟩ hv.1 (by have := hv.2.1; omega) ⟨_, rfl, hs⟩ HR.out
  generalize maxFreeOf t = res at *
  clear hv HR hs
  go_enter Tryz.func24, Tryz.ntmps24
  go_wp2_with fail
  refine (HV.out _ (below1 _ _)).mono ?_
  rintro e w1 ⟨rfl, hb⟩
  have HB := tuck (bAfter (below1 _ _) hb)
  have hz : w.heap.size < w1.heap.size := by have := hb.size; simp at this; omega
  have b0 : w1.cell? ⟨w.heap.size, 0, none⟩ = some (I6 t.kind) := (hb.cell (p := ⟨w.heap.size, 0, none⟩) (by simp)).trans (by go_simp)
  have b1 : w1.cell? ⟨w.heap.size, 1, none⟩ = some (I6 t.num) := (hb.cell (p := ⟨w.heap.size, 1, none⟩) (by simp)).trans (by go_simp)
  have b2 : w1.cell? ⟨w.heap.size, 2, none⟩ = some (.slice a t.kids.length cap) := (hb.cell (p := ⟨w.heap.size, 2, none⟩) (by simp)).trans (by go_simp)
  clear hb
  go_wp2_with fail
  have hbw : Below w.heap.size w (w1.alloc (.cells #[I6 0] 89)) := bAfter HB.out (below1 _ _)
  refine (HE.out _ w1.heap.size hbw (Nat.le_of_lt hz) (heap_new _ _)).mono ?_
  rintro e w2 ⟨rfl, M', hst, ⟨hc, rfl⟩, -, -⟩
  have c0 : w2.cell? ⟨w1.heap.size, 0, none⟩ = some (I6 res) := (block_of_cells hc).2.1 0
  have HB2 := tuck (hst.below hbw (by simp; omega) (fun i hi => by rw [hi]; exact Nat.le_of_lt hz))
  clear hst hc hbw b0 b1 b2
  go_wp2_with fail
  go_ret
  exact ⟨rfl, HB2.out⟩
 ·rw [tr_not hv] at HV
  rw [show maxFreeOf t = -1 from if_neg hv]
  clear hv hs
  go_enter Tryz.func24, Tryz.ntmps24
  go_wp2_with fail
  refine (HV.out _ (below1 _ _)).mono ?_
  rintro e w1 ⟨rfl, hb⟩
  have HB := tuck (bAfter (below1 _ _) hb)
  clear hb
  go_wp2_with fail
  go_ret
  exact ⟨rfl, HB.out⟩
end Go.Proofs.YtpddjebdncaceaaGreat
