/-
  PlG.
-/
import Derived.Test.YtpddjebdncaceaaGreatQ33
import Derived.Test.YtpddjebdncaceaaGreatQ37
import Derived.Test.YtpddjebdncaceaaGreatQ39
import Derived.Deep.DeepCutAuto
namespace Go.Proofs.YtpddjebdncaceaaGreat
open Go.RowKit
structure IntsC (w : World) (B : Nat) (N : Int → Int) (len : Nat) (v : Value) : Prop where
 ints : Ints w B N len v
 room : ∃ a cap, v = .slice a len cap ∧ len ≤ cap
theorem IntsC.below {w w' : World} {B : Nat} {N : Int → Int} {len : Nat} {v : Value} (h : IntsC w B N len v) (hb : Below w.heap.size w w') : IntsC w' B N len v := ⟨h.ints.below hb, h.room⟩
theorem IntsC.mono {w : World} {B B' : Nat} {N : Int → Int} {len : Nat} {v : Value} (h : IntsC w B N len v) (hB : B' ≤ B) : IntsC w B' N len v := ⟨h.ints.mono hB, h.room⟩
theorem IntsC.form {w : World} {B : Nat} {N : Int → Int} {len : Nat} {v : Value} (h : IntsC w B N len v) : ∃ a cap, v = .slice a len cap := h.ints.form
theorem IntsC.rest {w : World} {N : Int → Int} {n pc pb po : Nat} (h : IntsC w 0 N (n + 1) (.slice (some ⟨pb, po, none⟩) (n + 1) pc)) :
  IntsC w 0 (fun j => N (j + 1)) n (.slice (if pc = 1 then some ⟨pb, po, none⟩ else some ⟨pb, po + 1, none⟩) n (pc - 1)) := by
 obtain ⟨⟨a, c, b, o, e, h1, h2⟩, a', c', e', h3⟩ := h
 simp only [Value.slice.injEq, true_and] at e e'
 obtain ⟨rfl, rfl⟩ := e
 obtain ⟨rfl, rfl⟩ := e'
 obtain ⟨e1, -, hb⟩ := h1 (by omega)
 simp only [Option.some.injEq, Addr.mk.injEq, and_true] at e1
 obtain ⟨rfl, rfl⟩ := e1
 refine ⟨⟨_, _, pb, po + 1, rfl, fun hn => ?_, fun i hi => ?_⟩, _, _, rfl, by omega⟩
 ·rw [if_neg (by omega)]
  exact ⟨rfl, Nat.zero_le _, hb⟩
 ·have := h2 (i + 1) (by omega)
  rw [show po + 1 + i = po + (i + 1) by omega, this]
  rfl
set_option maxRecDepth 100000 in
set_option maxHeartbeats 3000000 in
theorem l8put_any (u : Tm) (hu : sizes u.kids ≤ 1000000) : ∀ (p : List (Tm × Nat)) (t x : Tm) (N : Int → Int) (w : World) (s vp us : Value), Chain t p x → t.Valid → (∀ j (h : j < p.length), ((p[j].2 : Nat) : Int) = N (j : Int)) → p.length ≤ 1000 → SlIn w 0 t.kids s → IntsC w 0 N p.length vp → SlIn w 0 u.kids us →
  Calls Tryz.prog 49 #[.agg #[I6 t.kind, I6 t.num, s], vp, .agg #[I6 u.kind, I6 u.num, us]] w (TlPost w (around p u)) := by
 intro p
 induction p with
 | nil =>
  intro t x N w s vp us hch hv hix hl hs hp hus
  rw [List.length_nil] at hp
  obtain ⟨a, c, rfl⟩ := hs.form
  obtain ⟨pa, pc, rfl⟩ := hp.form
  obtain ⟨ua, uc, rfl⟩ := hus.form
  have HB0 := tuck (below3 w (.cells #[I6 t.kind, I6 t.num, .slice a t.kids.length c] 34) (.cells #[I6 u.kind, I6 u.num, .slice ua u.kids.length uc] 34) (.cells #[I6 0, I6 0, .slice none 0 0] 34))
  have HVU := tuck ((var_new1 w (.cells #[I6 t.kind, I6 t.num, .slice a t.kids.length c] 34) u.kind u.num (.slice ua u.kids.length uc)).below (below1 _ (.cells #[I6 0, I6 0, .slice none 0 0] 34)))
  have HVR := tuck (var_new2 w (.cells #[I6 t.kind, I6 t.num, .slice a t.kids.length c] 34) (.cells #[I6 u.kind, I6 u.num, .slice ua u.kids.length uc] 34) 0 0 (.slice none 0 0))
  have HU := tuck hus
  have HPOST : Hid (∀ w' a c, Below w.heap.size w w' → SlIn w' w.heap.size u.kids (.slice a u.kids.length c) → TlPost w (around [] u) (.returned (.agg #[I6 u.kind, I6 u.num, .slice a u.kids.length c])) w') := tuck fun w' a c h1 h2 => ⟨h1, a, c, rfl, h2⟩
  generalize TlPost w (around [] u) = post at *
  clear hs hp hus hch hix hl
  obtain ⟨z, d0, d1, d2, df⟩ := HVU.out.facts
  go_enter Tryz.func49, Tryz.ntmps49
  go_wp2_with fail
  generalize ((w.alloc (.cells #[I6 t.kind, I6 t.num, .slice a t.kids.length c] 34)).alloc (.cells #[I6 u.kind, I6 u.num, .slice ua u.kids.length uc] 34)).alloc (.cells #[I6 0, I6 0, .slice none 0 0] 34) = W0 at *
  refine (tl_copyS u hu W0 _ (HU.out.below HB0.out)).mono ?_
  rintro e w1 ⟨hb1, ya, yc, rfl, hy⟩
  obtain ⟨z1, r0, r1, r2, rf⟩ := (HVR.out.below hb1).facts
  have HZ := tuck (show w.heap.size + 1 + 1 < _ from HVR.out.facts.1)
  go_wp2_with fail
  refine bodyPost_ret (v := .agg #[I6 u.kind, I6 u.num, .slice ya u.kids.length yc]) (by simp [results, Tryz.results49, go_sem, *]) rfl (HPOST.out _ ya yc ?_ ?_)
  ·exact bSet3 (bAfter HB0.out hb1) (by omega) _ _ _ _ _ _
  ·exact SlIn.mono (tl_sl3 hy HZ.out) HB0.out.size
 | cons e p ih =>
  intro t x N w s vp us hch hv hix hl hs hp hus
  obtain ⟨t', i⟩ := e
  obtain ⟨htt, hi, hch⟩ := hch
  replace htt := htt.symm
  subst htt
  rw [List.length_cons] at hp hl
  obtain ⟨a, c, xb, xo, rfl, hxl, hxp, hxc⟩ := hs.open
  unfold maxLen at hxl
  have hpc := hp
  obtain ⟨⟨pa, pc, pb, po, rfl, hp1, hp2⟩, -⟩ := hp
  obtain ⟨ua, uc, rfl⟩ := hus.form
  obtain ⟨rfl, -, hxb⟩ := hxp (by intro e; rw [e] at hi; simp at hi)
  obtain ⟨sv, k0, k1, k2, hsv⟩ := hxc i hi
  obtain ⟨sa, sc, rfl⟩ := hsv.form
  have h0 := hix 0 (by simp)
  simp only [List.getElem_cons_zero, Int.natCast_zero] at h0
  have q0 := hp2 0 (by omega)
  rw [Nat.add_zero, show ((0 : Nat) : Int) = 0 from rfl, ← h0] at q0
  obtain ⟨rfl, -, hpb⟩ := hp1 (by omega)
  have hk4 := hv.kids4
  have HIXP := tuck hix
  rw [kidT_eq hi] at hch
  have HPR := tuck hpc.rest
  have HI : Hid (∀ (w : World) (s vp us : Value), SlIn w 0 t.kids[i].kids s → IntsC w 0 (fun j => N (j + 1)) p.length vp → SlIn w 0 u.kids us → Calls Tryz.prog 49 #[.agg #[I6 t.kids[i].kind, I6 t.kids[i].num, s], vp, .agg #[I6 u.kind, I6 u.num, us]] w (TlPost w (around p u))) := tuck fun w s vp us h1 h2 h3 =>
   ih t.kids[i] x (fun j => N (j + 1)) w s vp us hch (hv.get hi) (fun j hj => by
    have := hix (j + 1) (by simp; omega)
    simpa using this) (by omega) h1 h2 h3
  have HL : Hid (∀ (B : Nat) (W : World) (kv : Value), B ≤ W.heap.size → SlIn W 0 t.kids (.slice (some ⟨xb, xo, none⟩) t.kids.length c) → SlIn W B (around p u).kids kv → Calls Tryz.prog 84 #[.agg #[I6 t.kind, I6 t.num, .slice (some ⟨xb, xo, none⟩) t.kids.length c], I6 (i : Int), .agg #[I6 (around p u).kind, I6 (around p u).num, kv]] W (fun e w' => Below W.heap.size W w' ∧ ∃ a c, e = .returned (.agg #[I6 t.kind, I6 t.num, .slice a (t.kids.set i (around p u)).length c]) ∧ SlIn w' B (t.kids.set i (around p u)) (.slice a (t.kids.set i (around p u)).length c))) := tuck fun B W kv h1 h2 h3 => lwith_any B t.kids t.kind t.num i hi (around p u) W h1 _ kv hk4 (by have := (valid_bounds hv).1; omega) h2 h3
  have HPOST : Hid (∀ w' a c, Below w.heap.size w w' → SlIn w' w.heap.size (t.kids.set i (around p u)) (.slice a (t.kids.set i (around p u)).length c) → TlPost w (around ((t, i) :: p) u) (.returned (.agg #[I6 t.kind, I6 t.num, .slice a (t.kids.set i (around p u)).length c])) w') := tuck fun w' a c h1 h2 => ⟨h1, a, c, rfl, h2⟩
  generalize TlPost w (around ((t, i) :: p) u) = post at *
  have HU := tuck hus
  have HS := tuck hs
  have HSY := tuck hsv
  have HB0 := tuck (below3 w (.cells #[I6 t.kind, I6 t.num, .slice (some ⟨xb, xo, none⟩) t.kids.length c] 34) (.cells #[I6 u.kind, I6 u.num, .slice ua u.kids.length uc] 34) (.cells #[I6 0, I6 0, .slice none 0 0] 34))
  have HVT := tuck (((VarAt.new w t.kind t.num (.slice (some ⟨xb, xo, none⟩) t.kids.length c)).below (below1 _ (.cells #[I6 u.kind, I6 u.num, .slice ua u.kids.length uc] 34))).below (below1 _ (.cells #[I6 0, I6 0, .slice none 0 0] 34)))
  have HVU := tuck ((var_new1 w (.cells #[I6 t.kind, I6 t.num, .slice (some ⟨xb, xo, none⟩) t.kids.length c] 34) u.kind u.num (.slice ua u.kids.length uc)).below (below1 _ (.cells #[I6 0, I6 0, .slice none 0 0] 34)))
  have HVR := tuck (var_new2 w (.cells #[I6 t.kind, I6 t.num, .slice (some ⟨xb, xo, none⟩) t.kids.length c] 34) (.cells #[I6 u.kind, I6 u.num, .slice ua u.kids.length uc] 34) 0 0 (.slice none 0 0))
  have hpi : (0 : Int) < ((p.length + 1 : Nat) : Int) := by omega
  have hii : (i : Int) < (t.kids.length : Int) := by omega
  have hii0 : (0 : Int) ≤ (i : Int) := by omega
  have hne : ((p.length + 1 : Nat) : Int) ≠ 0 := by omega
  have hle : (1 : Int) ≤ (p.length : Int) + 1 := by omega
  have HK0 := tuck k0
  have HK1 := tuck k1
  have HK2 := tuck k2
  have HQ0 := tuck q0
  clear hs hp1 hp2 hus hpc hch hix hsv hxp hxc ih hv k0 k1 k2 q0 h0
  generalize t.kids[i] = y at *
  generalize around p u = K at *
  go_enter Tryz.func49, Tryz.ntmps49
  go_wp2_with fail
  generalize ((w.alloc (.cells #[I6 t.kind, I6 t.num, .slice (some ⟨xb, xo, none⟩) t.kids.length c] 34)).alloc (.cells #[I6 u.kind, I6 u.num, .slice ua u.kids.length uc] 34)).alloc (.cells #[I6 0, I6 0, .slice none 0 0] 34) = W0 at *
  have HOLD : Hid (∀ w', Below W0.heap.size W0 w' → (fun w' : World => Below W0.heap.size W0 w' ∧ (w.heap.size < w'.heap.size ∧ w.heap.size + 1 < w'.heap.size ∧ xb < w'.heap.size ∧ pb < w'.heap.size) ∧ (w'.cell? ⟨w.heap.size, 0, none⟩ = some (I6 t.kind) ∧ w'.cell? ⟨w.heap.size, 1, none⟩ = some (I6 t.num) ∧ w'.cell? ⟨w.heap.size, 2, none⟩ = some (.slice (some ⟨xb, xo, none⟩) t.kids.length c)) ∧ (w'.cell? ⟨w.heap.size + 1, 0, none⟩ = some (I6 u.kind) ∧ w'.cell? ⟨w.heap.size + 1, 1, none⟩ = some (I6 u.num) ∧ w'.cell? ⟨w.heap.size + 1, 2, none⟩ = some (.slice ua u.kids.length uc)) ∧ w'.cell? ⟨pb, po, none⟩ = some (I6 (i : Int)) ∧ w'.cell? ⟨xb, xo + i * 3, none⟩ = some (I6 y.kind) ∧ w'.cell? ⟨xb, xo + i * 3 + 1, none⟩ = some (I6 y.num) ∧ w'.cell? ⟨xb, xo + i * 3 + 2, none⟩ = some (.slice sa y.kids.length sc)) w') := tuck fun w' h => ⟨h, ⟨Nat.lt_of_lt_of_le HVT.out.facts.1 h.size, Nat.lt_of_lt_of_le HVU.out.facts.1 h.size, Nat.lt_of_lt_of_le hxb (bAfter HB0.out h).size, Nat.lt_of_lt_of_le hpb (bAfter HB0.out h).size⟩, ⟨(HVT.out.below h).facts.2.1, (HVT.out.below h).facts.2.2.1, (HVT.out.below h).facts.2.2.2.1⟩, ⟨(HVU.out.below h).facts.2.1, (HVU.out.below h).facts.2.2.1, (HVU.out.below h).facts.2.2.2.1⟩, ((bAfter HB0.out h).cell (p := ⟨pb, po, none⟩) hpb).trans HQ0.out, ((bAfter HB0.out h).cell (p := ⟨xb, xo + i * 3, none⟩) hxb).trans HK0.out, ((bAfter HB0.out h).cell (p := ⟨xb, xo + i * 3 + 1, none⟩) hxb).trans HK1.out, ((bAfter HB0.out h).cell (p := ⟨xb, xo + i * 3 + 2, none⟩) hxb).trans HK2.out⟩
  go_upto_region 3 with fail
  refine AnyTwo.begin (fun w' : World => Below W0.heap.size W0 w' ∧ (w.heap.size < w'.heap.size ∧ w.heap.size + 1 < w'.heap.size ∧ xb < w'.heap.size ∧ pb < w'.heap.size) ∧ (w'.cell? ⟨w.heap.size, 0, none⟩ = some (I6 t.kind) ∧ w'.cell? ⟨w.heap.size, 1, none⟩ = some (I6 t.num) ∧ w'.cell? ⟨w.heap.size, 2, none⟩ = some (.slice (some ⟨xb, xo, none⟩) t.kids.length c)) ∧ (w'.cell? ⟨w.heap.size + 1, 0, none⟩ = some (I6 u.kind) ∧ w'.cell? ⟨w.heap.size + 1, 1, none⟩ = some (I6 u.num) ∧ w'.cell? ⟨w.heap.size + 1, 2, none⟩ = some (.slice ua u.kids.length uc)) ∧ w'.cell? ⟨pb, po, none⟩ = some (I6 (i : Int)) ∧ w'.cell? ⟨xb, xo + i * 3, none⟩ = some (I6 y.kind) ∧ w'.cell? ⟨xb, xo + i * 3 + 1, none⟩ = some (I6 y.num) ∧ w'.cell? ⟨xb, xo + i * 3 + 2, none⟩ = some (.slice sa y.kids.length sc)) (fun _ => True) 16 (by kernel_rfl) ?_
  have hS1 : (fun w' : World => Below W0.heap.size W0 w' ∧ (w.heap.size < w'.heap.size ∧ w.heap.size + 1 < w'.heap.size ∧ xb < w'.heap.size ∧ pb < w'.heap.size) ∧ (w'.cell? ⟨w.heap.size, 0, none⟩ = some (I6 t.kind) ∧ w'.cell? ⟨w.heap.size, 1, none⟩ = some (I6 t.num) ∧ w'.cell? ⟨w.heap.size, 2, none⟩ = some (.slice (some ⟨xb, xo, none⟩) t.kids.length c)) ∧ (w'.cell? ⟨w.heap.size + 1, 0, none⟩ = some (I6 u.kind) ∧ w'.cell? ⟨w.heap.size + 1, 1, none⟩ = some (I6 u.num) ∧ w'.cell? ⟨w.heap.size + 1, 2, none⟩ = some (.slice ua u.kids.length uc)) ∧ w'.cell? ⟨pb, po, none⟩ = some (I6 (i : Int)) ∧ w'.cell? ⟨xb, xo + i * 3, none⟩ = some (I6 y.kind) ∧ w'.cell? ⟨xb, xo + i * 3 + 1, none⟩ = some (I6 y.num) ∧ w'.cell? ⟨xb, xo + i * 3 + 2, none⟩ = some (.slice sa y.kids.length sc)) _ := HOLD.out _ (Below.refl _ _).drew
  refine AnyTwo.take (i := 0) (oi := ⟨some 12, _, _, _, _, _⟩) (v := ?vr0) rfl (by kernel_rfl) (by kernel_rfl) (by decide +kernel) (by kernel_rfl) (by rfl) (by kernel_rfl) (fun _ _ _ h => h) (Or.inl ⟨by rfl, ?yr0⟩) hS1 ?rr0
  case yr0 => (intro w hSw; (try dsimp only at hSw); go_simp; try (with_reducible rfl))
  try simp only [pts]
  refine AnyTwo.take (i := 1) (oi := ⟨some 13, _, _, _, _, _⟩) (v := ?vr1) rfl (by kernel_rfl) (by kernel_rfl) (by decide +kernel) (by kernel_rfl) (by rfl) (by kernel_rfl) (fun _ _ _ h => h) (Or.inl ⟨by rfl, ?yr1⟩) hS1 ?rr1
  case yr1 => (intro w hSw; (try dsimp only at hSw); go_simp; try (with_reducible rfl))
  try simp only [pts]
  refine AnyTwo.take (i := 2) (oi := ⟨some 14, _, _, _, _, _⟩) (v := ?vr2) rfl (by kernel_rfl) (by kernel_rfl) (by decide +kernel) (by kernel_rfl) (by rfl) (by kernel_rfl) (fun _ _ _ h => h) (Or.inl ⟨by rfl, ?yr2⟩) hS1 ?rr2
  case yr2 => (intro w hSw; (try dsimp only at hSw); go_simp; try (with_reducible rfl))
  try simp only [pts]
  refine AnyTwo.take (i := 3) (oi := ⟨some 15, _, _, _, _, _⟩) (v := ?vr3) rfl (by kernel_rfl) (by kernel_rfl) (by decide +kernel) (by kernel_rfl) (by rfl) (by kernel_rfl) (fun _ _ _ h => h) (Or.inl ⟨by rfl, ?yr3⟩) hS1 ?rr3
  case yr3 => (intro w hSw; (try dsimp only at hSw); go_simp; try (with_reducible rfl))
  try simp only [pts]
  refine AnyTwo.take (i := 4) (oi := ⟨some 16, _, _, _, _, _⟩) (v := ?vr4) rfl (by kernel_rfl) (by kernel_rfl) (by decide +kernel) (by kernel_rfl) (by rfl) (by kernel_rfl) (fun _ _ _ h => h) (Or.inl ⟨by rfl, ?yr4⟩) hS1 ?rr4
  case yr4 => (intro w hSw; (try dsimp only at hSw); go_simp; try (with_reducible rfl))
  try simp only [pts]
  refine AnyTwo.take (i := 5) (oi := ⟨some 17, _, _, _, _, _⟩) (v := ?vr5) rfl (by kernel_rfl) (by kernel_rfl) (by decide +kernel) (by kernel_rfl) (by rfl) (by kernel_rfl) (fun _ _ _ h => h) (Or.inl ⟨by rfl, ?yr5⟩) hS1 ?rr5
  case yr5 => (intro w hSw; (try dsimp only at hSw); go_simp; try (with_reducible rfl))
  try simp only [pts]
  refine AnyTwo.take (i := 6) (oi := ⟨some 18, _, _, _, _, _⟩) (v := ?vr6) rfl (by kernel_rfl) (by kernel_rfl) (by decide +kernel) (by kernel_rfl) (by rfl) (by kernel_rfl) (fun _ _ _ h => h) (Or.inl ⟨by rfl, ?yr6⟩) hS1 ?rr6
  case yr6 => (intro w hSw; (try dsimp only at hSw); go_simp; try (with_reducible rfl))
  try simp only [pts]
  refine AnyTwo.take (i := 7) (oi := ⟨some 19, _, _, _, _, _⟩) (v := ?vr7) rfl (by kernel_rfl) (by kernel_rfl) (by decide +kernel) (by kernel_rfl) (by rfl) (by kernel_rfl) (fun _ _ _ h => h) (Or.inl ⟨by rfl, ?yr7⟩) hS1 ?rr7
  case yr7 => (intro w hSw; (try dsimp only at hSw); go_simp; try (with_reducible rfl))
  try simp only [pts]
  refine AnyTwo.take (i := 8) (oi := ⟨some 20, _, _, _, _, _⟩) (v := ?vr8) rfl (by kernel_rfl) (by kernel_rfl) (by decide +kernel) (by kernel_rfl) (by rfl) (by kernel_rfl) (fun _ _ _ h => h) (Or.inl ⟨by rfl, ?yr8⟩) hS1 ?rr8
  case yr8 => (intro w hSw; (try dsimp only at hSw); go_simp; try (with_reducible rfl))
  try simp only [pts]
  refine AnyTwo.take (i := 9) (oi := ⟨some 21, _, _, _, _, _⟩) (v := ?vr9) rfl (by kernel_rfl) (by kernel_rfl) (by decide +kernel) (by kernel_rfl) (by rfl) (by kernel_rfl) (fun _ _ _ h => h) (Or.inl ⟨by rfl, ?yr9⟩) hS1 ?rr9
  case yr9 => (intro w hSw; (try dsimp only at hSw); go_simp; try (with_reducible rfl))
  try simp only [pts]
  refine AnyTwo.take (i := 10) (oi := ⟨some 22, _, _, _, _, _⟩) (v := ?vr10) rfl (by kernel_rfl) (by kernel_rfl) (by decide +kernel) (by kernel_rfl) (by rfl) (by kernel_rfl) (fun _ _ _ h => h) (Or.inl ⟨by rfl, ?yr10⟩) hS1 ?rr10
  case yr10 => (intro w hSw; (try dsimp only at hSw); go_simp; try (with_reducible rfl))
  try simp only [pts]
  refine AnyTwo.take (i := 11) (oi := ⟨some 23, _, _, _, _, _⟩) (v := ?vr11) rfl (by kernel_rfl) (by kernel_rfl) (by decide +kernel) (by kernel_rfl) (by rfl) (by kernel_rfl) (fun _ _ _ h => h) (Or.inl ⟨by rfl, ?yr11⟩) hS1 ?rr11
  case yr11 => (intro w hSw; (try dsimp only at hSw); go_simp; try (with_reducible rfl))
  try simp only [pts]
  refine AnyTwo.take (i := 12) (oi := ⟨some 24, _, _, _, _, _⟩) (v := ?vr12) rfl (by kernel_rfl) (by kernel_rfl) (by decide +kernel) (by kernel_rfl) (by rfl) (by kernel_rfl) (fun _ _ _ h => h) (Or.inl ⟨by rfl, ?yr12⟩) hS1 ?rr12
  case yr12 => (intro w hSw; (try dsimp only at hSw); go_simp; try (with_reducible rfl))
  try simp only [pts]
  refine AnyTwo.take (i := 13) (oi := ⟨some 25, _, _, _, _, _⟩) (v := ?vr13) rfl (by kernel_rfl) (by kernel_rfl) (by decide +kernel) (by kernel_rfl) (by rfl) (by kernel_rfl) (fun _ _ _ h => h) (Or.inl ⟨by rfl, ?yr13⟩) hS1 ?rr13
  case yr13 => (intro w hSw; (try dsimp only at hSw); go_simp; try (with_reducible rfl))
  try simp only [pts]
  refine AnyTwo.step (i := 14) (o := ⟨some 26, _, _, _, _, _⟩) (by kernel_rfl) rfl (fun K hK => ?_)
  go_simp
  refine (HI.out _ _ _ _ (HSY.out.below (bAfter HB0.out hS1.1)) (HPR.out.below (bAfter HB0.out hS1.1)) (HU.out.below (bAfter HB0.out hS1.1))).mono ?_
  rintro e w2 ⟨hb2, ka, kc, rfl, hk2⟩
  have HZ2 : Hid (W0.heap.size ≤ _) := tuck hS1.1.size
  have hS1' : (fun w' : World => Below W0.heap.size W0 w' ∧ (w.heap.size < w'.heap.size ∧ w.heap.size + 1 < w'.heap.size ∧ xb < w'.heap.size ∧ pb < w'.heap.size) ∧ (w'.cell? ⟨w.heap.size, 0, none⟩ = some (I6 t.kind) ∧ w'.cell? ⟨w.heap.size, 1, none⟩ = some (I6 t.num) ∧ w'.cell? ⟨w.heap.size, 2, none⟩ = some (.slice (some ⟨xb, xo, none⟩) t.kids.length c)) ∧ (w'.cell? ⟨w.heap.size + 1, 0, none⟩ = some (I6 u.kind) ∧ w'.cell? ⟨w.heap.size + 1, 1, none⟩ = some (I6 u.num) ∧ w'.cell? ⟨w.heap.size + 1, 2, none⟩ = some (.slice ua u.kids.length uc)) ∧ w'.cell? ⟨pb, po, none⟩ = some (I6 (i : Int)) ∧ w'.cell? ⟨xb, xo + i * 3, none⟩ = some (I6 y.kind) ∧ w'.cell? ⟨xb, xo + i * 3 + 1, none⟩ = some (I6 y.num) ∧ w'.cell? ⟨xb, xo + i * 3 + 2, none⟩ = some (.slice sa y.kids.length sc)) _ := HOLD.out _ (bAfter hS1.1 hb2)
  refine hK.out _ _ (ph_one (by kernel_rfl) hS1') ?_
  clear hK K hS1
  have hS1 := hS1'
  clear hS1'
  try simp only [pts]
  refine AnyTwo.step (i := 15) (o := ⟨some 27, _, _, _, _, _⟩) (by kernel_rfl) rfl (fun K hK => ?_)
  go_simp
  refine (HL.out W0.heap.size _ _ (hS1.1.size) (HS.out.below (bAfter HB0.out hS1.1)) (SlIn.mono hk2 HZ2.out)).mono ?_
  rintro e w3 ⟨hb3, na, nc, rfl, hs3⟩
  obtain ⟨zr, r0, r1, r2, rf⟩ := (HVR.out.below (bAfter hS1.1 hb3)).facts
  have hS1' : (fun w' : World => Below W0.heap.size W0 w' ∧ (w.heap.size < w'.heap.size ∧ w.heap.size + 1 < w'.heap.size ∧ xb < w'.heap.size ∧ pb < w'.heap.size) ∧ (w'.cell? ⟨w.heap.size, 0, none⟩ = some (I6 t.kind) ∧ w'.cell? ⟨w.heap.size, 1, none⟩ = some (I6 t.num) ∧ w'.cell? ⟨w.heap.size, 2, none⟩ = some (.slice (some ⟨xb, xo, none⟩) t.kids.length c)) ∧ (w'.cell? ⟨w.heap.size + 1, 0, none⟩ = some (I6 u.kind) ∧ w'.cell? ⟨w.heap.size + 1, 1, none⟩ = some (I6 u.num) ∧ w'.cell? ⟨w.heap.size + 1, 2, none⟩ = some (.slice ua u.kids.length uc)) ∧ w'.cell? ⟨pb, po, none⟩ = some (I6 (i : Int)) ∧ w'.cell? ⟨xb, xo + i * 3, none⟩ = some (I6 y.kind) ∧ w'.cell? ⟨xb, xo + i * 3 + 1, none⟩ = some (I6 y.num) ∧ w'.cell? ⟨xb, xo + i * 3 + 2, none⟩ = some (.slice sa y.kids.length sc)) _ := HOLD.out _ (bAfter hS1.1 hb3)
  refine hK.out _ _ (ph_one (by kernel_rfl) hS1') ?_
  clear hK K hS1
  have hS1 := hS1'
  clear hS1'
  try simp only [pts]
  refine AnyTwo.step (i := 16) (o := ⟨none, _, _, _, _, _⟩) (by kernel_rfl) rfl (fun K hK => ?_)
  go_simp
  refine hK.out _ _ (ph_end (by kernel_rfl) trivial) ?_
  clear hK K
  try simp only [pts]
  refine AnyTwo.done (by kernel_rfl) ?_ _
  generalize (if pc = 1 then some (⟨pb, po, none⟩ : Addr) else some ⟨pb, po + 1, none⟩) = ra at *
  go_wp2_with fail
  refine bodyPost_ret (v := .agg #[I6 t.kind, I6 t.num, .slice na (t.kids.set i K).length nc]) (by simp [results, Tryz.results49, go_sem, *]) rfl (HPOST.out _ na nc ?_ ?_)
  ·exact bSet3 (bAfter (bAfter HB0.out (hS1.1)) (Below.refl _ _)) (by omega) _ _ _ _ _ _
  ·exact SlIn.mono (tl_sl3 hs3 (show w.heap.size + 1 + 1 < _ from HVR.out.facts.1)) HB0.out.size
end Go.Proofs.YtpddjebdncaceaaGreat
