/-
  TextC.
-/
import Derived.Test.YtlbikgnanabjgaaGreatQ46
namespace Go.Proofs.YtlbikgnanabjgaaGreat
open Go.RowKit
theorem row3_below {w w' : World} {b i j k : Nat} {x y z : Value} (h : b < w.heap.size ∧ w.cell? ⟨b, i, none⟩ = some x ∧ w.cell? ⟨b, j, none⟩ = some y ∧ w.cell? ⟨b, k, none⟩ = some z) (hb : Below w.heap.size w w') :
  b < w'.heap.size ∧ w'.cell? ⟨b, i, none⟩ = some x ∧ w'.cell? ⟨b, j, none⟩ = some y ∧ w'.cell? ⟨b, k, none⟩ = some z :=
 ⟨Nat.lt_of_lt_of_le h.1 hb.size, (hb.cell (p := ⟨b, i, none⟩) h.1).trans h.2.1, (hb.cell (p := ⟨b, j, none⟩) h.1).trans h.2.2.1, (hb.cell (p := ⟨b, k, none⟩) h.1).trans h.2.2.2⟩
theorem row3_drew {w : World} {b i j k : Nat} {x y z : Value} (h : b < w.heap.size ∧ w.cell? ⟨b, i, none⟩ = some x ∧ w.cell? ⟨b, j, none⟩ = some y ∧ w.cell? ⟨b, k, none⟩ = some z) :
  b < w.drew.heap.size ∧ w.drew.cell? ⟨b, i, none⟩ = some x ∧ w.drew.cell? ⟨b, j, none⟩ = some y ∧ w.drew.cell? ⟨b, k, none⟩ = some z := h
@[reducible] def TxS (w : World) (k n : Int) (b o cap : Nat) (T0 T1 : Tm) (a0 : Option Addr) (n0 : Nat) (a1 : Option Addr) (n1 : Nat) (w' : World) : Prop :=
 Below w.heap.size w w' ∧ (w.heap.size < w'.heap.size ∧ w'.cell? ⟨w.heap.size, 0, none⟩ = some (.int .i64 k) ∧ w'.cell? ⟨w.heap.size, 1, none⟩ = some (.int .i64 n) ∧ w'.cell? ⟨w.heap.size, 2, none⟩ = some (.slice (some ⟨b, o, none⟩) 2 cap)) ∧ (b < w'.heap.size ∧ w'.cell? ⟨b, o, none⟩ = some (.int .i64 T0.kind) ∧ w'.cell? ⟨b, o + 1, none⟩ = some (.int .i64 T0.num) ∧ w'.cell? ⟨b, o + 2, none⟩ = some (.slice a0 T0.kids.length n0)) ∧ (b < w'.heap.size ∧ w'.cell? ⟨b, o + 3, none⟩ = some (.int .i64 T1.kind) ∧ w'.cell? ⟨b, o + 4, none⟩ = some (.int .i64 T1.num) ∧ w'.cell? ⟨b, o + 5, none⟩ = some (.slice a1 T1.kids.length n1))
set_option maxRecDepth 100000 in
set_option maxHeartbeats 1600000 in
theorem text1_any (n : Int) (l : List Tm) (hok : (Tm.mk 1 n l).allOk) (hsz : sizes l ≤ 1000000)
  (hrec : ∀ i (hi : i < l.length) (w' : World) (s : Value), SlIn w' 0 l[i].kids s → Calls Tryz.prog 74 #[.agg #[.int .i64 l[i].kind, .int .i64 l[i].num, s]] w' (StrPost w' l[i].txt))
  (w : World) (v : Value) (hs : SlIn w 0 l v) : Calls Tryz.prog 74 #[.agg #[.int .i64 1, .int .i64 n, v]] w (StrPost w (Tm.mk 1 n l).txt) := by
 have hlen : l.length = 0 := by
  rw [Tm.allOk] at hok
  have := hok.1.1
  rw [show arity 1 = 0 by decide] at this
  omega
 have HP : Hid (∀ s w', s = (Tm.mk 1 n l).txt → Below w.heap.size w w' → StrPost w (Tm.mk 1 n l).txt (.returned (.string s)) w') := tuck fun s w' h hb => by rw [h]; exact ⟨rfl, hb⟩
 generalize StrPost w (Tm.mk 1 n l).txt = post at *
 have hn : 0 ≤ n ∧ n ≤ 99 := by
  rw [Tm.allOk] at hok
  have := hok.1.2
  rw [show mostN 1 = 20 by decide] at this
  omega
 obtain ⟨m, rfl⟩ : ∃ m : Nat, n = m := ⟨n.toNat, by omega⟩
 obtain rfl : l = [] := List.length_eq_zero_iff.1 hlen
 have HD : Hid (∀ W, Calls Tryz.prog 82 #[.int .i64 m] W (StrPost W (decS m))) := tuck fun W => dec_any m (by omega) W
 obtain ⟨a, cap, b, o, rfl, -, -, -⟩ := hs.open
 have HE : Hid ((Tm.mk 1 m []).txt = (ByteArray.mk #[35]) ++ decS m) := tuck (by rw [Tm.txt]; rfl)
 have hds := decS_size m
 generalize decS m = X at *
 have z1 : ¬ (9223372036854775807 < 1 + X.size) := by omega
 have HB := tuck (below1 w (.cells #[.int .i64 1, .int .i64 m, .slice a 0 cap] 25))
 clear hrec hok hsz hn hds hlen
 go_enter Tryz.func74, Tryz.ntmps74
 go_wp2_with fail
 refine (HD.out _).mono ?_
 rintro e w2 ⟨rfl, hb2⟩
 have HB2 := tuck (bAfter HB.out hb2)
 clear hb2
 go_wp2_with fail
 exact HP.out _ _ (by rw [HE.out]) HB2.out
set_option maxRecDepth 100000 in
set_option maxHeartbeats 1600000 in
theorem text2_any (n : Int) (l : List Tm) (hok : (Tm.mk 2 n l).allOk) (hsz : sizes l ≤ 1000000)
  (hrec : ∀ i (hi : i < l.length) (w' : World) (s : Value), SlIn w' 0 l[i].kids s → Calls Tryz.prog 74 #[.agg #[.int .i64 l[i].kind, .int .i64 l[i].num, s]] w' (StrPost w' l[i].txt))
  (w : World) (v : Value) (hs : SlIn w 0 l v) : Calls Tryz.prog 74 #[.agg #[.int .i64 2, .int .i64 n, v]] w (StrPost w (Tm.mk 2 n l).txt) := by
 have hlen : l.length = 0 := by
  rw [Tm.allOk] at hok
  have := hok.1.1
  rw [show arity 2 = 0 by decide] at this
  omega
 have HP : Hid (∀ s w', s = (Tm.mk 2 n l).txt → Below w.heap.size w w' → StrPost w (Tm.mk 2 n l).txt (.returned (.string s)) w') := tuck fun s w' h hb => by rw [h]; exact ⟨rfl, hb⟩
 generalize StrPost w (Tm.mk 2 n l).txt = post at *
 have hn : 0 ≤ n ∧ n ≤ 99 := by
  rw [Tm.allOk] at hok
  have := hok.1.2
  rw [show mostN 2 = 3 by decide] at this
  omega
 obtain ⟨m, rfl⟩ : ∃ m : Nat, n = m := ⟨n.toNat, by omega⟩
 obtain rfl : l = [] := List.length_eq_zero_iff.1 hlen
 have HD : Hid (∀ W, Calls Tryz.prog 82 #[.int .i64 m] W (StrPost W (decS m))) := tuck fun W => dec_any m (by omega) W
 obtain ⟨a, cap, b, o, rfl, -, -, -⟩ := hs.open
 have HE : Hid ((Tm.mk 2 m []).txt = (ByteArray.mk #[42]) ++ decS m) := tuck (by rw [Tm.txt]; rfl)
 have hds := decS_size m
 generalize decS m = X at *
 have z1 : ¬ (9223372036854775807 < 1 + X.size) := by omega
 have HB := tuck (below1 w (.cells #[.int .i64 2, .int .i64 m, .slice a 0 cap] 25))
 clear hrec hok hsz hn hds hlen
 go_enter Tryz.func74, Tryz.ntmps74
 go_wp2_with fail
 refine (HD.out _).mono ?_
 rintro e w2 ⟨rfl, hb2⟩
 have HB2 := tuck (bAfter HB.out hb2)
 clear hb2
 go_wp2_with fail
 exact HP.out _ _ (by rw [HE.out]) HB2.out
set_option maxRecDepth 100000 in
set_option maxHeartbeats 1600000 in
theorem text6_any (n : Int) (l : List Tm) (hok : (Tm.mk 6 n l).allOk) (_hsz : sizes l ≤ 1000000)
  (_hrec : ∀ i (hi : i < l.length) (w' : World) (s : Value), SlIn w' 0 l[i].kids s → Calls Tryz.prog 74 #[.agg #[.int .i64 l[i].kind, .int .i64 l[i].num, s]] w' (StrPost w' l[i].txt))
  (w : World) (v : Value) (hs : SlIn w 0 l v) : Calls Tryz.prog 74 #[.agg #[.int .i64 6, .int .i64 n, v]] w (StrPost w (Tm.mk 6 n l).txt) := by
 have hlen : l.length = 0 := by
  rw [Tm.allOk] at hok
  have := hok.1.1
  rw [show arity 6 = 0 by decide] at this
  omega
 have HP : Hid (∀ s w', s = (Tm.mk 6 n l).txt → Below w.heap.size w w' → StrPost w (Tm.mk 6 n l).txt (.returned (.string s)) w') := tuck fun s w' h hb => by rw [h]; exact ⟨rfl, hb⟩
 generalize StrPost w (Tm.mk 6 n l).txt = post at *
 obtain ⟨a, cap, b, o, rfl, -, -, -⟩ := hs.open
 clear hok
 go_enter Tryz.func74, Tryz.ntmps74
 go_wp2_with fail
 exact HP.out _ _ (by rw [Tm.txt]; rfl) (below1 _ _)
set_option maxRecDepth 100000 in
set_option maxHeartbeats 1600000 in
theorem text7_any (n : Int) (l : List Tm) (hok : (Tm.mk 7 n l).allOk) (_hsz : sizes l ≤ 1000000)
  (_hrec : ∀ i (hi : i < l.length) (w' : World) (s : Value), SlIn w' 0 l[i].kids s → Calls Tryz.prog 74 #[.agg #[.int .i64 l[i].kind, .int .i64 l[i].num, s]] w' (StrPost w' l[i].txt))
  (w : World) (v : Value) (hs : SlIn w 0 l v) : Calls Tryz.prog 74 #[.agg #[.int .i64 7, .int .i64 n, v]] w (StrPost w (Tm.mk 7 n l).txt) := by
 have hlen : l.length = 0 := by
  rw [Tm.allOk] at hok
  have := hok.1.1
  rw [show arity 7 = 0 by decide] at this
  omega
 have HP : Hid (∀ s w', s = (Tm.mk 7 n l).txt → Below w.heap.size w w' → StrPost w (Tm.mk 7 n l).txt (.returned (.string s)) w') := tuck fun s w' h hb => by rw [h]; exact ⟨rfl, hb⟩
 generalize StrPost w (Tm.mk 7 n l).txt = post at *
 obtain ⟨a, cap, b, o, rfl, -, -, -⟩ := hs.open
 clear hok
 go_enter Tryz.func74, Tryz.ntmps74
 go_wp2_with fail
 exact HP.out _ _ (by rw [Tm.txt]; rfl) (below1 _ _)
set_option maxRecDepth 100000 in
set_option maxHeartbeats 1600000 in
theorem text8_any (n : Int) (l : List Tm) (hok : (Tm.mk 8 n l).allOk) (hsz : sizes l ≤ 1000000)
  (hrec : ∀ i (hi : i < l.length) (w' : World) (s : Value), SlIn w' 0 l[i].kids s → Calls Tryz.prog 74 #[.agg #[.int .i64 l[i].kind, .int .i64 l[i].num, s]] w' (StrPost w' l[i].txt))
  (w : World) (v : Value) (hs : SlIn w 0 l v) : Calls Tryz.prog 74 #[.agg #[.int .i64 8, .int .i64 n, v]] w (StrPost w (Tm.mk 8 n l).txt) := by
 have hlen : l.length = 1 := by
  rw [Tm.allOk] at hok
  have := hok.1.1
  rw [show arity 8 = 1 by decide] at this
  omega
 have HP : Hid (∀ s w', s = (Tm.mk 8 n l).txt → Below w.heap.size w w' → StrPost w (Tm.mk 8 n l).txt (.returned (.string s)) w') := tuck fun s w' h hb => by rw [h]; exact ⟨rfl, hb⟩
 generalize StrPost w (Tm.mk 8 n l).txt = post at *
 obtain ⟨a, cap, b, o, rfl, -, hp, hc⟩ := hs.open
 obtain ⟨rfl, -, hbw⟩ := hp (by intro e; rw [e] at hlen; simp at hlen)
 obtain ⟨s0, c00, c01, c02, hs0⟩ := hc 0 (by omega)
 have HK0 := tuck (fun w' s => hrec 0 (by omega) w' s)
 have ht0 : l[0].txt.size ≤ 8000100 := by
  have h1 := l[0].txt_size
  have h2 := size_get_le l 0 (by omega)
  omega
 have hx0 := kidS_txt l 0 (by omega)
 generalize l[0] = T0 at *
 obtain ⟨a0, n0, rfl⟩ := hs0.form
 have HS0 := tuck hs0
 obtain ⟨X0, hX0⟩ : ∃ X, X = T0.txt := ⟨_, rfl⟩
 rw [← hX0] at HK0 ht0 hx0
 clear hX0 hs0
 have HROW0 : Hid (∀ w', Below w.heap.size w w' → b < w'.heap.size ∧ w'.cell? ⟨b, o, none⟩ = some (.int .i64 T0.kind) ∧ w'.cell? ⟨b, o + 1, none⟩ = some (.int .i64 T0.num) ∧ w'.cell? ⟨b, o + 2, none⟩ = some (.slice a0 T0.kids.length n0)) := tuck fun w' h =>
  ⟨Nat.lt_of_lt_of_le hbw h.size, (h.cell (p := ⟨b, o, none⟩) hbw).trans (by simpa using c00), (h.cell (p := ⟨b, o + 1, none⟩) hbw).trans (by simpa using c01), (h.cell (p := ⟨b, o + 2, none⟩) hbw).trans (by simpa using c02)⟩
 clear c00 c01 c02
 have HE : Hid ((Tm.mk 8 n l).txt = (ByteArray.mk #[43]) ++ X0) := tuck (by rw [Tm.txt, ← hx0]; rfl)
 have z1 : ¬ (9223372036854775807 < 1 + X0.size) := by omega
 have HB := tuck (below1 w (.cells #[.int .i64 8, .int .i64 n, .slice (some ⟨b, o, none⟩) 1 cap] 25))
 obtain ⟨zb, k0, k1, k2⟩ := HROW0.out _ HB.out
 rw [hlen] at *
 clear hrec hok hsz hc hp hx0 ht0 HROW0 hlen
 go_enter Tryz.func74, Tryz.ntmps74
 go_wp2_with fail
 refine (HK0.out _ _ (HS0.out.below HB.out)).mono ?_
 rintro e w2 ⟨rfl, hb2⟩
 have HB2 := tuck (bAfter HB.out hb2)
 clear hb2
 go_wp2_with fail
 exact HP.out _ _ (by rw [HE.out]) HB2.out
set_option maxRecDepth 100000 in
set_option maxHeartbeats 1600000 in
theorem text11_any (n : Int) (l : List Tm) (hok : (Tm.mk 11 n l).allOk) (hsz : sizes l ≤ 1000000)
  (hrec : ∀ i (hi : i < l.length) (w' : World) (s : Value), SlIn w' 0 l[i].kids s → Calls Tryz.prog 74 #[.agg #[.int .i64 l[i].kind, .int .i64 l[i].num, s]] w' (StrPost w' l[i].txt))
  (w : World) (v : Value) (hs : SlIn w 0 l v) : Calls Tryz.prog 74 #[.agg #[.int .i64 11, .int .i64 n, v]] w (StrPost w (Tm.mk 11 n l).txt) := by
 have hlen : l.length = 1 := by
  rw [Tm.allOk] at hok
  have := hok.1.1
  rw [show arity 11 = 1 by decide] at this
  omega
 have HP : Hid (∀ s w', s = (Tm.mk 11 n l).txt → Below w.heap.size w w' → StrPost w (Tm.mk 11 n l).txt (.returned (.string s)) w') := tuck fun s w' h hb => by rw [h]; exact ⟨rfl, hb⟩
 generalize StrPost w (Tm.mk 11 n l).txt = post at *
 obtain ⟨a, cap, b, o, rfl, -, hp, hc⟩ := hs.open
 obtain ⟨rfl, -, hbw⟩ := hp (by intro e; rw [e] at hlen; simp at hlen)
 obtain ⟨s0, c00, c01, c02, hs0⟩ := hc 0 (by omega)
 have HK0 := tuck (fun w' s => hrec 0 (by omega) w' s)
 have ht0 : l[0].txt.size ≤ 8000100 := by
  have h1 := l[0].txt_size
  have h2 := size_get_le l 0 (by omega)
  omega
 have hx0 := kidS_txt l 0 (by omega)
 generalize l[0] = T0 at *
 obtain ⟨a0, n0, rfl⟩ := hs0.form
 have HS0 := tuck hs0
 obtain ⟨X0, hX0⟩ : ∃ X, X = T0.txt := ⟨_, rfl⟩
 rw [← hX0] at HK0 ht0 hx0
 clear hX0 hs0
 have HROW0 : Hid (∀ w', Below w.heap.size w w' → b < w'.heap.size ∧ w'.cell? ⟨b, o, none⟩ = some (.int .i64 T0.kind) ∧ w'.cell? ⟨b, o + 1, none⟩ = some (.int .i64 T0.num) ∧ w'.cell? ⟨b, o + 2, none⟩ = some (.slice a0 T0.kids.length n0)) := tuck fun w' h =>
  ⟨Nat.lt_of_lt_of_le hbw h.size, (h.cell (p := ⟨b, o, none⟩) hbw).trans (by simpa using c00), (h.cell (p := ⟨b, o + 1, none⟩) hbw).trans (by simpa using c01), (h.cell (p := ⟨b, o + 2, none⟩) hbw).trans (by simpa using c02)⟩
 clear c00 c01 c02
 have HE : Hid ((Tm.mk 11 n l).txt = (ByteArray.mk #[33]) ++ X0) := tuck (by rw [Tm.txt, ← hx0]; rfl)
 have z1 : ¬ (9223372036854775807 < 1 + X0.size) := by omega
 have HB := tuck (below1 w (.cells #[.int .i64 11, .int .i64 n, .slice (some ⟨b, o, none⟩) 1 cap] 25))
 obtain ⟨zb, k0, k1, k2⟩ := HROW0.out _ HB.out
 rw [hlen] at *
 clear hrec hok hsz hc hp hx0 ht0 HROW0 hlen
 go_enter Tryz.func74, Tryz.ntmps74
 go_wp2_with fail
 refine (HK0.out _ _ (HS0.out.below HB.out)).mono ?_
 rintro e w2 ⟨rfl, hb2⟩
 have HB2 := tuck (bAfter HB.out hb2)
 clear hb2
 go_wp2_with fail
 exact HP.out _ _ (by rw [HE.out]) HB2.out
set_option maxRecDepth 100000 in
set_option maxHeartbeats 1600000 in
theorem text15_any (n : Int) (l : List Tm) (hok : (Tm.mk 15 n l).allOk) (hsz : sizes l ≤ 1000000)
  (hrec : ∀ i (hi : i < l.length) (w' : World) (s : Value), SlIn w' 0 l[i].kids s → Calls Tryz.prog 74 #[.agg #[.int .i64 l[i].kind, .int .i64 l[i].num, s]] w' (StrPost w' l[i].txt))
  (w : World) (v : Value) (hs : SlIn w 0 l v) : Calls Tryz.prog 74 #[.agg #[.int .i64 15, .int .i64 n, v]] w (StrPost w (Tm.mk 15 n l).txt) := by
 have hlen : l.length = 1 := by
  rw [Tm.allOk] at hok
  have := hok.1.1
  rw [show arity 15 = 1 by decide] at this
  omega
 have HP : Hid (∀ s w', s = (Tm.mk 15 n l).txt → Below w.heap.size w w' → StrPost w (Tm.mk 15 n l).txt (.returned (.string s)) w') := tuck fun s w' h hb => by rw [h]; exact ⟨rfl, hb⟩
 generalize StrPost w (Tm.mk 15 n l).txt = post at *
 obtain ⟨a, cap, b, o, rfl, -, hp, hc⟩ := hs.open
 obtain ⟨rfl, -, hbw⟩ := hp (by intro e; rw [e] at hlen; simp at hlen)
 obtain ⟨s0, c00, c01, c02, hs0⟩ := hc 0 (by omega)
 have HK0 := tuck (fun w' s => hrec 0 (by omega) w' s)
 have ht0 : l[0].txt.size ≤ 8000100 := by
  have h1 := l[0].txt_size
  have h2 := size_get_le l 0 (by omega)
  omega
 have hx0 := kidS_txt l 0 (by omega)
 generalize l[0] = T0 at *
 obtain ⟨a0, n0, rfl⟩ := hs0.form
 have HS0 := tuck hs0
 obtain ⟨X0, hX0⟩ : ∃ X, X = T0.txt := ⟨_, rfl⟩
 rw [← hX0] at HK0 ht0 hx0
 clear hX0 hs0
 have HROW0 : Hid (∀ w', Below w.heap.size w w' → b < w'.heap.size ∧ w'.cell? ⟨b, o, none⟩ = some (.int .i64 T0.kind) ∧ w'.cell? ⟨b, o + 1, none⟩ = some (.int .i64 T0.num) ∧ w'.cell? ⟨b, o + 2, none⟩ = some (.slice a0 T0.kids.length n0)) := tuck fun w' h =>
  ⟨Nat.lt_of_lt_of_le hbw h.size, (h.cell (p := ⟨b, o, none⟩) hbw).trans (by simpa using c00), (h.cell (p := ⟨b, o + 1, none⟩) hbw).trans (by simpa using c01), (h.cell (p := ⟨b, o + 2, none⟩) hbw).trans (by simpa using c02)⟩
 clear c00 c01 c02
 have HE : Hid ((Tm.mk 15 n l).txt = (ByteArray.mk #[94]) ++ X0) := tuck (by rw [Tm.txt, ← hx0]; rfl)
 have z1 : ¬ (9223372036854775807 < 1 + X0.size) := by omega
 have HB := tuck (below1 w (.cells #[.int .i64 15, .int .i64 n, .slice (some ⟨b, o, none⟩) 1 cap] 25))
 obtain ⟨zb, k0, k1, k2⟩ := HROW0.out _ HB.out
 rw [hlen] at *
 clear hrec hok hsz hc hp hx0 ht0 HROW0 hlen
 go_enter Tryz.func74, Tryz.ntmps74
 go_wp2_with fail
 refine (HK0.out _ _ (HS0.out.below HB.out)).mono ?_
 rintro e w2 ⟨rfl, hb2⟩
 have HB2 := tuck (bAfter HB.out hb2)
 clear hb2
 go_wp2_with fail
 exact HP.out _ _ (by rw [HE.out]) HB2.out
set_option maxRecDepth 100000 in
set_option maxHeartbeats 1600000 in
theorem text16_any (n : Int) (l : List Tm) (hok : (Tm.mk 16 n l).allOk) (hsz : sizes l ≤ 1000000)
  (hrec : ∀ i (hi : i < l.length) (w' : World) (s : Value), SlIn w' 0 l[i].kids s → Calls Tryz.prog 74 #[.agg #[.int .i64 l[i].kind, .int .i64 l[i].num, s]] w' (StrPost w' l[i].txt))
  (w : World) (v : Value) (hs : SlIn w 0 l v) : Calls Tryz.prog 74 #[.agg #[.int .i64 16, .int .i64 n, v]] w (StrPost w (Tm.mk 16 n l).txt) := by
 have hlen : l.length = 1 := by
  rw [Tm.allOk] at hok
  have := hok.1.1
  rw [show arity 16 = 1 by decide] at this
  omega
 have HP : Hid (∀ s w', s = (Tm.mk 16 n l).txt → Below w.heap.size w w' → StrPost w (Tm.mk 16 n l).txt (.returned (.string s)) w') := tuck fun s w' h hb => by rw [h]; exact ⟨rfl, hb⟩
 generalize StrPost w (Tm.mk 16 n l).txt = post at *
 obtain ⟨a, cap, b, o, rfl, -, hp, hc⟩ := hs.open
 obtain ⟨rfl, -, hbw⟩ := hp (by intro e; rw [e] at hlen; simp at hlen)
 obtain ⟨s0, c00, c01, c02, hs0⟩ := hc 0 (by omega)
 have HK0 := tuck (fun w' s => hrec 0 (by omega) w' s)
 have ht0 : l[0].txt.size ≤ 8000100 := by
  have h1 := l[0].txt_size
  have h2 := size_get_le l 0 (by omega)
  omega
 have hx0 := kidS_txt l 0 (by omega)
 generalize l[0] = T0 at *
 obtain ⟨a0, n0, rfl⟩ := hs0.form
 have HS0 := tuck hs0
 obtain ⟨X0, hX0⟩ : ∃ X, X = T0.txt := ⟨_, rfl⟩
 rw [← hX0] at HK0 ht0 hx0
 clear hX0 hs0
 have HROW0 : Hid (∀ w', Below w.heap.size w w' → b < w'.heap.size ∧ w'.cell? ⟨b, o, none⟩ = some (.int .i64 T0.kind) ∧ w'.cell? ⟨b, o + 1, none⟩ = some (.int .i64 T0.num) ∧ w'.cell? ⟨b, o + 2, none⟩ = some (.slice a0 T0.kids.length n0)) := tuck fun w' h =>
  ⟨Nat.lt_of_lt_of_le hbw h.size, (h.cell (p := ⟨b, o, none⟩) hbw).trans (by simpa using c00), (h.cell (p := ⟨b, o + 1, none⟩) hbw).trans (by simpa using c01), (h.cell (p := ⟨b, o + 2, none⟩) hbw).trans (by simpa using c02)⟩
 clear c00 c01 c02
 have HE : Hid ((Tm.mk 16 n l).txt = (ByteArray.mk #[95]) ++ X0) := tuck (by rw [Tm.txt, ← hx0]; rfl)
 have z1 : ¬ (9223372036854775807 < 1 + X0.size) := by omega
 have HB := tuck (below1 w (.cells #[.int .i64 16, .int .i64 n, .slice (some ⟨b, o, none⟩) 1 cap] 25))
 obtain ⟨zb, k0, k1, k2⟩ := HROW0.out _ HB.out
 rw [hlen] at *
 clear hrec hok hsz hc hp hx0 ht0 HROW0 hlen
 go_enter Tryz.func74, Tryz.ntmps74
 go_wp2_with fail
 refine (HK0.out _ _ (HS0.out.below HB.out)).mono ?_
 rintro e w2 ⟨rfl, hb2⟩
 have HB2 := tuck (bAfter HB.out hb2)
 clear hb2
 go_wp2_with fail
 exact HP.out _ _ (by rw [HE.out]) HB2.out
set_option maxRecDepth 100000 in
set_option maxHeartbeats 1600000 in
theorem text3_any (n : Int) (l : List Tm) (hok : (Tm.mk 3 n l).allOk) (hsz : sizes l ≤ 1000000)
  (hrec : ∀ i (hi : i < l.length) (w' : World) (s : Value), SlIn w' 0 l[i].kids s → Calls Tryz.prog 74 #[.agg #[.int .i64 l[i].kind, .int .i64 l[i].num, s]] w' (StrPost w' l[i].txt))
  (w : World) (v : Value) (hs : SlIn w 0 l v) : Calls Tryz.prog 74 #[.agg #[.int .i64 3, .int .i64 n, v]] w (StrPost w (Tm.mk 3 n l).txt) := by
 have hlen : l.length = 2 := by
  rw [Tm.allOk] at hok
  have := hok.1.1
  rw [show arity 3 = 2 by decide] at this
  omega
 have HP : Hid (∀ s w', s = (Tm.mk 3 n l).txt → Below w.heap.size w w' → StrPost w (Tm.mk 3 n l).txt (.returned (.string s)) w') := tuck fun s w' h hb => by rw [h]; exact ⟨rfl, hb⟩
 generalize StrPost w (Tm.mk 3 n l).txt = post at *
 obtain ⟨a, cap, b, o, rfl, -, hp, hc⟩ := hs.open
 obtain ⟨rfl, -, hbw⟩ := hp (by intro e; rw [e] at hlen; simp at hlen)
 obtain ⟨s0, c00, c01, c02, hs0⟩ := hc 0 (by omega)
 have HK0 := tuck (fun w' s => hrec 0 (by omega) w' s)
 have ht0 : l[0].txt.size ≤ 8000100 := by
  have h1 := l[0].txt_size
  have h2 := size_get_le l 0 (by omega)
  omega
 have hx0 := kidS_txt l 0 (by omega)
 generalize l[0] = T0 at *
 obtain ⟨a0, n0, rfl⟩ := hs0.form
 have HS0 := tuck hs0
 obtain ⟨X0, hX0⟩ : ∃ X, X = T0.txt := ⟨_, rfl⟩
 rw [← hX0] at HK0 ht0 hx0
 clear hX0 hs0
 have HROW0 : Hid (∀ w', Below w.heap.size w w' → b < w'.heap.size ∧ w'.cell? ⟨b, o, none⟩ = some (.int .i64 T0.kind) ∧ w'.cell? ⟨b, o + 1, none⟩ = some (.int .i64 T0.num) ∧ w'.cell? ⟨b, o + 2, none⟩ = some (.slice a0 T0.kids.length n0)) := tuck fun w' h =>
  ⟨Nat.lt_of_lt_of_le hbw h.size, (h.cell (p := ⟨b, o, none⟩) hbw).trans (by simpa using c00), (h.cell (p := ⟨b, o + 1, none⟩) hbw).trans (by simpa using c01), (h.cell (p := ⟨b, o + 2, none⟩) hbw).trans (by simpa using c02)⟩
 clear c00 c01 c02
 obtain ⟨s1, c10, c11, c12, hs1⟩ := hc 1 (by omega)
 have HK1 := tuck (fun w' s => hrec 1 (by omega) w' s)
 have ht1 : l[1].txt.size ≤ 8000100 := by
  have h1 := l[1].txt_size
  have h2 := size_get_le l 1 (by omega)
  omega
 have hx1 := kidS_txt l 1 (by omega)
 generalize l[1] = T1 at *
 obtain ⟨a1, n1, rfl⟩ := hs1.form
 have HS1 := tuck hs1
 obtain ⟨X1, hX1⟩ : ∃ X, X = T1.txt := ⟨_, rfl⟩
 rw [← hX1] at HK1 ht1 hx1
 clear hX1 hs1
 have HROW1 : Hid (∀ w', Below w.heap.size w w' → b < w'.heap.size ∧ w'.cell? ⟨b, o + 3, none⟩ = some (.int .i64 T1.kind) ∧ w'.cell? ⟨b, o + 4, none⟩ = some (.int .i64 T1.num) ∧ w'.cell? ⟨b, o + 5, none⟩ = some (.slice a1 T1.kids.length n1)) := tuck fun w' h =>
  ⟨Nat.lt_of_lt_of_le hbw h.size, (h.cell (p := ⟨b, o + 3, none⟩) hbw).trans (by simpa using c10), (h.cell (p := ⟨b, o + 4, none⟩) hbw).trans (by simpa using c11), (h.cell (p := ⟨b, o + 5, none⟩) hbw).trans (by simpa using c12)⟩
 clear c10 c11 c12
 have HE : Hid ((Tm.mk 3 n l).txt = (ByteArray.mk #[40]) ++ X0 ++ (ByteArray.mk #[62]) ++ X1 ++ (ByteArray.mk #[41])) := tuck (by rw [Tm.txt, ← hx0, ← hx1]; rfl)
 have z1 : ¬ (9223372036854775807 < 1 + X0.size) := by omega
 have z2 : ¬ (9223372036854775807 < 1 + X0.size + 1) := by omega
 have z3 : ¬ (9223372036854775807 < 1 + X0.size + 1 + X1.size) := by omega
 have z4 : ¬ (9223372036854775807 < 1 + X0.size + 1 + X1.size + 1) := by omega
 have HB := tuck (below1 w (.cells #[.int .i64 3, .int .i64 n, .slice (some ⟨b, o, none⟩) 2 cap] 25))
 have HV : Hid ((w.heap.size < (w.alloc (.cells #[.int .i64 3, .int .i64 n, .slice (some ⟨b, o, none⟩) 2 cap] 25)).heap.size ∧ (w.alloc (.cells #[.int .i64 3, .int .i64 n, .slice (some ⟨b, o, none⟩) 2 cap] 25)).cell? ⟨w.heap.size, 0, none⟩ = some (.int .i64 3) ∧ (w.alloc (.cells #[.int .i64 3, .int .i64 n, .slice (some ⟨b, o, none⟩) 2 cap] 25)).cell? ⟨w.heap.size, 1, none⟩ = some (.int .i64 n) ∧ (w.alloc (.cells #[.int .i64 3, .int .i64 n, .slice (some ⟨b, o, none⟩) 2 cap] 25)).cell? ⟨w.heap.size, 2, none⟩ = some (.slice (some ⟨b, o, none⟩) 2 cap))) := by
  obtain ⟨h1, h2, h3, h4, -⟩ := (VarAt.new w 3 n (.slice (some ⟨b, o, none⟩) 2 cap)).facts
  exact ⟨h1, h2, h3, h4⟩
 have HX0 := tuck (HROW0.out _ HB.out)
 have HX1 := tuck (HROW1.out _ HB.out)
 rw [hlen] at *
 clear hrec hok hsz hc hp hx0 ht0 HROW0 hx1 ht1 HROW1 hlen
 go_enter Tryz.func74, Tryz.ntmps74
 go_wp2_with fail
 generalize w.alloc (.cells #[.int .i64 3, .int .i64 n, .slice (some ⟨b, o, none⟩) 2 cap] 25) = W1 at *
 have HT12 : ∀ w' : World, (TxS w 3 n b o cap T0 T1 a0 n0 a1 n1) w' → (TxS w 3 n b o cap T0 T1 a0 n0 a1 n1) w' := fun w' h => h
 refine AnyTwo.begin (TxS w 3 n b o cap T0 T1 a0 n0 a1 n1) (TxS w 3 n b o cap T0 T1 a0 n0 a1 n1) 14 (by kernel_rfl) ?_
 have hS1 : (TxS w 3 n b o cap T0 T1 a0 n0 a1 n1) _ := ⟨HB.out.drew, row3_drew HV.out, row3_drew HX0.out, row3_drew HX1.out⟩
 refine AnyTwo.tk HT12 (i := 0) (oi := ⟨some 55, _, _, _, _, _⟩) rfl (ph_one (by kernel_rfl) hS1) ?_
 try simp only [pts]
 refine AnyTwo.tk HT12 (i := 1) (oi := ⟨some 56, _, _, _, _, _⟩) rfl (ph_one (by kernel_rfl) hS1) ?_
 try simp only [pts]
 refine AnyTwo.tk HT12 (i := 2) (oi := ⟨some 57, _, _, _, _, _⟩) rfl (ph_one (by kernel_rfl) hS1) ?_
 try simp only [pts]
 refine AnyTwo.tk HT12 (i := 3) (oi := ⟨some 58, _, _, _, _, _⟩) rfl (ph_one (by kernel_rfl) hS1) ?_
 try simp only [pts]
 refine AnyTwo.tk HT12 (i := 7) (oi := ⟨some 62, _, _, _, _, _⟩) rfl (ph_one (by kernel_rfl) hS1) ?_
 try simp only [pts]
 refine AnyTwo.tk HT12 (i := 8) (oi := ⟨some 63, _, _, _, _, _⟩) rfl (ph_one (by kernel_rfl) hS1) ?_
 try simp only [pts]
 refine AnyTwo.tk HT12 (i := 9) (oi := ⟨some 64, _, _, _, _, _⟩) rfl (ph_one (by kernel_rfl) hS1) ?_
 try simp only [pts]
 refine AnyTwo.tk HT12 (i := 10) (oi := ⟨some 65, _, _, _, _, _⟩) rfl (ph_one (by kernel_rfl) hS1) ?_
 try simp only [pts]
 refine AnyTwo.step (i := 4) (o := ⟨some 59, _, _, _, _, _⟩) (by kernel_rfl) rfl (fun K hK => ?_)
 go_simp
 refine (HK0.out _ _ (HS0.out.below hS1.1)).mono ?_
 rintro e w7 ⟨rfl, hb7⟩
 have hS1' : (TxS w 3 n b o cap T0 T1 a0 n0 a1 n1) _ := ⟨bAfter hS1.1 hb7, row3_below hS1.2.1 hb7, row3_below hS1.2.2.1 hb7, row3_below hS1.2.2.2 hb7⟩
 refine hK.out _ _ (ph_one (by kernel_rfl) hS1') ?_
 clear hK K hS1
 have hS1 := hS1'
 clear hS1'
 try simp only [pts]
 refine AnyTwo.tk HT12 (i := 5) (oi := ⟨some 60, _, _, _, _, _⟩) rfl (ph_one (by kernel_rfl) hS1) ?_
 try simp only [pts]
 refine AnyTwo.tk HT12 (i := 6) (oi := ⟨some 61, _, _, _, _, _⟩) rfl (ph_one (by kernel_rfl) hS1) ?_
 try simp only [pts]
 refine AnyTwo.step (i := 11) (o := ⟨some 66, _, _, _, _, _⟩) (by kernel_rfl) rfl (fun K hK => ?_)
 go_simp
 refine (HK1.out _ _ (HS1.out.below hS1.1)).mono ?_
 rintro e w7 ⟨rfl, hb7⟩
 have hS1' : (TxS w 3 n b o cap T0 T1 a0 n0 a1 n1) _ := ⟨bAfter hS1.1 hb7, row3_below hS1.2.1 hb7, row3_below hS1.2.2.1 hb7, row3_below hS1.2.2.2 hb7⟩
 refine hK.out _ _ (ph_one (by kernel_rfl) hS1') ?_
 clear hK K hS1
 have hS1 := hS1'
 clear hS1'
 try simp only [pts]
 refine AnyTwo.tk HT12 (i := 12) (oi := ⟨some 67, _, _, _, _, _⟩) rfl (ph_one (by kernel_rfl) hS1) ?_
 try simp only [pts]
 refine AnyTwo.tk HT12 (i := 13) (oi := ⟨some 68, _, _, _, _, _⟩) rfl (ph_one (by kernel_rfl) hS1) ?_
 try simp only [pts]
 refine AnyTwo.step (i := 14) (o := ⟨some 2, _, _, _, _, _⟩) (by kernel_rfl) rfl (fun K hK => ?_)
 go_simp
 refine hK.out _ _ (ph_end (by kernel_rfl) hS1) ?_
 clear hK K
 try simp only [pts]
 refine AnyTwo.done (by kernel_rfl) ?_ _
 clear HT12
 have HB2 := tuck hS1.1
 clear hS1
 go_wp2_with fail
 exact HP.out _ _ (by rw [HE.out]) HB2.out
set_option maxRecDepth 100000 in
set_option maxHeartbeats 1600000 in
theorem text13_any (n : Int) (l : List Tm) (hok : (Tm.mk 13 n l).allOk) (hsz : sizes l ≤ 1000000)
  (hrec : ∀ i (hi : i < l.length) (w' : World) (s : Value), SlIn w' 0 l[i].kids s → Calls Tryz.prog 74 #[.agg #[.int .i64 l[i].kind, .int .i64 l[i].num, s]] w' (StrPost w' l[i].txt))
  (w : World) (v : Value) (hs : SlIn w 0 l v) : Calls Tryz.prog 74 #[.agg #[.int .i64 13, .int .i64 n, v]] w (StrPost w (Tm.mk 13 n l).txt) := by
 have hlen : l.length = 2 := by
  rw [Tm.allOk] at hok
  have := hok.1.1
  rw [show arity 13 = 2 by decide] at this
  omega
 have HP : Hid (∀ s w', s = (Tm.mk 13 n l).txt → Below w.heap.size w w' → StrPost w (Tm.mk 13 n l).txt (.returned (.string s)) w') := tuck fun s w' h hb => by rw [h]; exact ⟨rfl, hb⟩
 generalize StrPost w (Tm.mk 13 n l).txt = post at *
 obtain ⟨a, cap, b, o, rfl, -, hp, hc⟩ := hs.open
 obtain ⟨rfl, -, hbw⟩ := hp (by intro e; rw [e] at hlen; simp at hlen)
 obtain ⟨s0, c00, c01, c02, hs0⟩ := hc 0 (by omega)
 have HK0 := tuck (fun w' s => hrec 0 (by omega) w' s)
 have ht0 : l[0].txt.size ≤ 8000100 := by
  have h1 := l[0].txt_size
  have h2 := size_get_le l 0 (by omega)
  omega
 have hx0 := kidS_txt l 0 (by omega)
 generalize l[0] = T0 at *
 obtain ⟨a0, n0, rfl⟩ := hs0.form
 have HS0 := tuck hs0
 obtain ⟨X0, hX0⟩ : ∃ X, X = T0.txt := ⟨_, rfl⟩
 rw [← hX0] at HK0 ht0 hx0
 clear hX0 hs0
 have HROW0 : Hid (∀ w', Below w.heap.size w w' → b < w'.heap.size ∧ w'.cell? ⟨b, o, none⟩ = some (.int .i64 T0.kind) ∧ w'.cell? ⟨b, o + 1, none⟩ = some (.int .i64 T0.num) ∧ w'.cell? ⟨b, o + 2, none⟩ = some (.slice a0 T0.kids.length n0)) := tuck fun w' h =>
  ⟨Nat.lt_of_lt_of_le hbw h.size, (h.cell (p := ⟨b, o, none⟩) hbw).trans (by simpa using c00), (h.cell (p := ⟨b, o + 1, none⟩) hbw).trans (by simpa using c01), (h.cell (p := ⟨b, o + 2, none⟩) hbw).trans (by simpa using c02)⟩
 clear c00 c01 c02
 obtain ⟨s1, c10, c11, c12, hs1⟩ := hc 1 (by omega)
 have HK1 := tuck (fun w' s => hrec 1 (by omega) w' s)
 have ht1 : l[1].txt.size ≤ 8000100 := by
  have h1 := l[1].txt_size
  have h2 := size_get_le l 1 (by omega)
  omega
 have hx1 := kidS_txt l 1 (by omega)
 generalize l[1] = T1 at *
 obtain ⟨a1, n1, rfl⟩ := hs1.form
 have HS1 := tuck hs1
 obtain ⟨X1, hX1⟩ : ∃ X, X = T1.txt := ⟨_, rfl⟩
 rw [← hX1] at HK1 ht1 hx1
 clear hX1 hs1
 have HROW1 : Hid (∀ w', Below w.heap.size w w' → b < w'.heap.size ∧ w'.cell? ⟨b, o + 3, none⟩ = some (.int .i64 T1.kind) ∧ w'.cell? ⟨b, o + 4, none⟩ = some (.int .i64 T1.num) ∧ w'.cell? ⟨b, o + 5, none⟩ = some (.slice a1 T1.kids.length n1)) := tuck fun w' h =>
  ⟨Nat.lt_of_lt_of_le hbw h.size, (h.cell (p := ⟨b, o + 3, none⟩) hbw).trans (by simpa using c10), (h.cell (p := ⟨b, o + 4, none⟩) hbw).trans (by simpa using c11), (h.cell (p := ⟨b, o + 5, none⟩) hbw).trans (by simpa using c12)⟩
 clear c10 c11 c12
 have HE : Hid ((Tm.mk 13 n l).txt = (ByteArray.mk #[40]) ++ X0 ++ (ByteArray.mk #[42]) ++ X1 ++ (ByteArray.mk #[41])) := tuck (by rw [Tm.txt, ← hx0, ← hx1]; rfl)
 have z1 : ¬ (9223372036854775807 < 1 + X0.size) := by omega
 have z2 : ¬ (9223372036854775807 < 1 + X0.size + 1) := by omega
 have z3 : ¬ (9223372036854775807 < 1 + X0.size + 1 + X1.size) := by omega
 have z4 : ¬ (9223372036854775807 < 1 + X0.size + 1 + X1.size + 1) := by omega
 have HB := tuck (below1 w (.cells #[.int .i64 13, .int .i64 n, .slice (some ⟨b, o, none⟩) 2 cap] 25))
 have HV : Hid ((w.heap.size < (w.alloc (.cells #[.int .i64 13, .int .i64 n, .slice (some ⟨b, o, none⟩) 2 cap] 25)).heap.size ∧ (w.alloc (.cells #[.int .i64 13, .int .i64 n, .slice (some ⟨b, o, none⟩) 2 cap] 25)).cell? ⟨w.heap.size, 0, none⟩ = some (.int .i64 13) ∧ (w.alloc (.cells #[.int .i64 13, .int .i64 n, .slice (some ⟨b, o, none⟩) 2 cap] 25)).cell? ⟨w.heap.size, 1, none⟩ = some (.int .i64 n) ∧ (w.alloc (.cells #[.int .i64 13, .int .i64 n, .slice (some ⟨b, o, none⟩) 2 cap] 25)).cell? ⟨w.heap.size, 2, none⟩ = some (.slice (some ⟨b, o, none⟩) 2 cap))) := by
  obtain ⟨h1, h2, h3, h4, -⟩ := (VarAt.new w 13 n (.slice (some ⟨b, o, none⟩) 2 cap)).facts
  exact ⟨h1, h2, h3, h4⟩
 have HX0 := tuck (HROW0.out _ HB.out)
 have HX1 := tuck (HROW1.out _ HB.out)
 rw [hlen] at *
 clear hrec hok hsz hc hp hx0 ht0 HROW0 hx1 ht1 HROW1 hlen
 go_enter Tryz.func74, Tryz.ntmps74
 go_wp2_with fail
 generalize w.alloc (.cells #[.int .i64 13, .int .i64 n, .slice (some ⟨b, o, none⟩) 2 cap] 25) = W1 at *
 have HT12 : ∀ w' : World, (TxS w 13 n b o cap T0 T1 a0 n0 a1 n1) w' → (TxS w 13 n b o cap T0 T1 a0 n0 a1 n1) w' := fun w' h => h
 refine AnyTwo.begin (TxS w 13 n b o cap T0 T1 a0 n0 a1 n1) (TxS w 13 n b o cap T0 T1 a0 n0 a1 n1) 14 (by kernel_rfl) ?_
 have hS1 : (TxS w 13 n b o cap T0 T1 a0 n0 a1 n1) _ := ⟨HB.out.drew, row3_drew HV.out, row3_drew HX0.out, row3_drew HX1.out⟩
 refine AnyTwo.tk HT12 (i := 0) (oi := ⟨some 71, _, _, _, _, _⟩) rfl (ph_one (by kernel_rfl) hS1) ?_
 try simp only [pts]
 refine AnyTwo.tk HT12 (i := 1) (oi := ⟨some 72, _, _, _, _, _⟩) rfl (ph_one (by kernel_rfl) hS1) ?_
 try simp only [pts]
 refine AnyTwo.tk HT12 (i := 2) (oi := ⟨some 73, _, _, _, _, _⟩) rfl (ph_one (by kernel_rfl) hS1) ?_
 try simp only [pts]
 refine AnyTwo.tk HT12 (i := 3) (oi := ⟨some 74, _, _, _, _, _⟩) rfl (ph_one (by kernel_rfl) hS1) ?_
 try simp only [pts]
 refine AnyTwo.tk HT12 (i := 7) (oi := ⟨some 78, _, _, _, _, _⟩) rfl (ph_one (by kernel_rfl) hS1) ?_
 try simp only [pts]
 refine AnyTwo.tk HT12 (i := 8) (oi := ⟨some 79, _, _, _, _, _⟩) rfl (ph_one (by kernel_rfl) hS1) ?_
 try simp only [pts]
 refine AnyTwo.tk HT12 (i := 9) (oi := ⟨some 80, _, _, _, _, _⟩) rfl (ph_one (by kernel_rfl) hS1) ?_
 try simp only [pts]
 refine AnyTwo.tk HT12 (i := 10) (oi := ⟨some 81, _, _, _, _, _⟩) rfl (ph_one (by kernel_rfl) hS1) ?_
 try simp only [pts]
 refine AnyTwo.step (i := 4) (o := ⟨some 75, _, _, _, _, _⟩) (by kernel_rfl) rfl (fun K hK => ?_)
 go_simp
 refine (HK0.out _ _ (HS0.out.below hS1.1)).mono ?_
 rintro e w7 ⟨rfl, hb7⟩
 have hS1' : (TxS w 13 n b o cap T0 T1 a0 n0 a1 n1) _ := ⟨bAfter hS1.1 hb7, row3_below hS1.2.1 hb7, row3_below hS1.2.2.1 hb7, row3_below hS1.2.2.2 hb7⟩
 refine hK.out _ _ (ph_one (by kernel_rfl) hS1') ?_
 clear hK K hS1
 have hS1 := hS1'
 clear hS1'
 try simp only [pts]
 refine AnyTwo.tk HT12 (i := 5) (oi := ⟨some 76, _, _, _, _, _⟩) rfl (ph_one (by kernel_rfl) hS1) ?_
 try simp only [pts]
 refine AnyTwo.tk HT12 (i := 6) (oi := ⟨some 77, _, _, _, _, _⟩) rfl (ph_one (by kernel_rfl) hS1) ?_
 try simp only [pts]
 refine AnyTwo.step (i := 11) (o := ⟨some 82, _, _, _, _, _⟩) (by kernel_rfl) rfl (fun K hK => ?_)
 go_simp
 refine (HK1.out _ _ (HS1.out.below hS1.1)).mono ?_
 rintro e w7 ⟨rfl, hb7⟩
 have hS1' : (TxS w 13 n b o cap T0 T1 a0 n0 a1 n1) _ := ⟨bAfter hS1.1 hb7, row3_below hS1.2.1 hb7, row3_below hS1.2.2.1 hb7, row3_below hS1.2.2.2 hb7⟩
 refine hK.out _ _ (ph_one (by kernel_rfl) hS1') ?_
 clear hK K hS1
 have hS1 := hS1'
 clear hS1'
 try simp only [pts]
 refine AnyTwo.tk HT12 (i := 12) (oi := ⟨some 83, _, _, _, _, _⟩) rfl (ph_one (by kernel_rfl) hS1) ?_
 try simp only [pts]
 refine AnyTwo.tk HT12 (i := 13) (oi := ⟨some 84, _, _, _, _, _⟩) rfl (ph_one (by kernel_rfl) hS1) ?_
 try simp only [pts]
 refine AnyTwo.step (i := 14) (o := ⟨some 2, _, _, _, _, _⟩) (by kernel_rfl) rfl (fun K hK => ?_)
 go_simp
 refine hK.out _ _ (ph_end (by kernel_rfl) hS1) ?_
 clear hK K
 try simp only [pts]
 refine AnyTwo.done (by kernel_rfl) ?_ _
 clear HT12
 have HB2 := tuck hS1.1
 clear hS1
 go_wp2_with fail
 exact HP.out _ _ (by rw [HE.out]) HB2.out
set_option maxRecDepth 100000 in
set_option maxHeartbeats 1600000 in
theorem text5_any (n : Int) (l : List Tm) (hok : (Tm.mk 5 n l).allOk) (hsz : sizes l ≤ 1000000)
  (hrec : ∀ i (hi : i < l.length) (w' : World) (s : Value), SlIn w' 0 l[i].kids s → Calls Tryz.prog 74 #[.agg #[.int .i64 l[i].kind, .int .i64 l[i].num, s]] w' (StrPost w' l[i].txt))
  (w : World) (v : Value) (hs : SlIn w 0 l v) : Calls Tryz.prog 74 #[.agg #[.int .i64 5, .int .i64 n, v]] w (StrPost w (Tm.mk 5 n l).txt) := by
 have hlen : l.length = 2 := by
  rw [Tm.allOk] at hok
  have := hok.1.1
  rw [show arity 5 = 2 by decide] at this
  omega
 have HP : Hid (∀ s w', s = (Tm.mk 5 n l).txt → Below w.heap.size w w' → StrPost w (Tm.mk 5 n l).txt (.returned (.string s)) w') := tuck fun s w' h hb => by rw [h]; exact ⟨rfl, hb⟩
 generalize StrPost w (Tm.mk 5 n l).txt = post at *
 obtain ⟨a, cap, b, o, rfl, -, hp, hc⟩ := hs.open
 obtain ⟨rfl, -, hbw⟩ := hp (by intro e; rw [e] at hlen; simp at hlen)
 obtain ⟨s0, c00, c01, c02, hs0⟩ := hc 0 (by omega)
 have HK0 := tuck (fun w' s => hrec 0 (by omega) w' s)
 have ht0 : l[0].txt.size ≤ 8000100 := by
  have h1 := l[0].txt_size
  have h2 := size_get_le l 0 (by omega)
  omega
 have hx0 := kidS_txt l 0 (by omega)
 generalize l[0] = T0 at *
 obtain ⟨a0, n0, rfl⟩ := hs0.form
 have HS0 := tuck hs0
 obtain ⟨X0, hX0⟩ : ∃ X, X = T0.txt := ⟨_, rfl⟩
 rw [← hX0] at HK0 ht0 hx0
 clear hX0 hs0
 have HROW0 : Hid (∀ w', Below w.heap.size w w' → b < w'.heap.size ∧ w'.cell? ⟨b, o, none⟩ = some (.int .i64 T0.kind) ∧ w'.cell? ⟨b, o + 1, none⟩ = some (.int .i64 T0.num) ∧ w'.cell? ⟨b, o + 2, none⟩ = some (.slice a0 T0.kids.length n0)) := tuck fun w' h =>
  ⟨Nat.lt_of_lt_of_le hbw h.size, (h.cell (p := ⟨b, o, none⟩) hbw).trans (by simpa using c00), (h.cell (p := ⟨b, o + 1, none⟩) hbw).trans (by simpa using c01), (h.cell (p := ⟨b, o + 2, none⟩) hbw).trans (by simpa using c02)⟩
 clear c00 c01 c02
 obtain ⟨s1, c10, c11, c12, hs1⟩ := hc 1 (by omega)
 have HK1 := tuck (fun w' s => hrec 1 (by omega) w' s)
 have ht1 : l[1].txt.size ≤ 8000100 := by
  have h1 := l[1].txt_size
  have h2 := size_get_le l 1 (by omega)
  omega
 have hx1 := kidS_txt l 1 (by omega)
 generalize l[1] = T1 at *
 obtain ⟨a1, n1, rfl⟩ := hs1.form
 have HS1 := tuck hs1
 obtain ⟨X1, hX1⟩ : ∃ X, X = T1.txt := ⟨_, rfl⟩
 rw [← hX1] at HK1 ht1 hx1
 clear hX1 hs1
 have HROW1 : Hid (∀ w', Below w.heap.size w w' → b < w'.heap.size ∧ w'.cell? ⟨b, o + 3, none⟩ = some (.int .i64 T1.kind) ∧ w'.cell? ⟨b, o + 4, none⟩ = some (.int .i64 T1.num) ∧ w'.cell? ⟨b, o + 5, none⟩ = some (.slice a1 T1.kids.length n1)) := tuck fun w' h =>
  ⟨Nat.lt_of_lt_of_le hbw h.size, (h.cell (p := ⟨b, o + 3, none⟩) hbw).trans (by simpa using c10), (h.cell (p := ⟨b, o + 4, none⟩) hbw).trans (by simpa using c11), (h.cell (p := ⟨b, o + 5, none⟩) hbw).trans (by simpa using c12)⟩
 clear c10 c11 c12
 have HE : Hid ((Tm.mk 5 n l).txt = (ByteArray.mk #[40]) ++ X0 ++ (ByteArray.mk #[32]) ++ X1 ++ (ByteArray.mk #[41])) := tuck (by rw [Tm.txt, ← hx0, ← hx1]; rfl)
 have z1 : ¬ (9223372036854775807 < 1 + X0.size) := by omega
 have z2 : ¬ (9223372036854775807 < 1 + X0.size + 1) := by omega
 have z3 : ¬ (9223372036854775807 < 1 + X0.size + 1 + X1.size) := by omega
 have z4 : ¬ (9223372036854775807 < 1 + X0.size + 1 + X1.size + 1) := by omega
 have HB := tuck (below1 w (.cells #[.int .i64 5, .int .i64 n, .slice (some ⟨b, o, none⟩) 2 cap] 25))
 have HV : Hid ((w.heap.size < (w.alloc (.cells #[.int .i64 5, .int .i64 n, .slice (some ⟨b, o, none⟩) 2 cap] 25)).heap.size ∧ (w.alloc (.cells #[.int .i64 5, .int .i64 n, .slice (some ⟨b, o, none⟩) 2 cap] 25)).cell? ⟨w.heap.size, 0, none⟩ = some (.int .i64 5) ∧ (w.alloc (.cells #[.int .i64 5, .int .i64 n, .slice (some ⟨b, o, none⟩) 2 cap] 25)).cell? ⟨w.heap.size, 1, none⟩ = some (.int .i64 n) ∧ (w.alloc (.cells #[.int .i64 5, .int .i64 n, .slice (some ⟨b, o, none⟩) 2 cap] 25)).cell? ⟨w.heap.size, 2, none⟩ = some (.slice (some ⟨b, o, none⟩) 2 cap))) := by
  obtain ⟨h1, h2, h3, h4, -⟩ := (VarAt.new w 5 n (.slice (some ⟨b, o, none⟩) 2 cap)).facts
  exact ⟨h1, h2, h3, h4⟩
 have HX0 := tuck (HROW0.out _ HB.out)
 have HX1 := tuck (HROW1.out _ HB.out)
 rw [hlen] at *
 clear hrec hok hsz hc hp hx0 ht0 HROW0 hx1 ht1 HROW1 hlen
 go_enter Tryz.func74, Tryz.ntmps74
 go_wp2_with fail
 generalize w.alloc (.cells #[.int .i64 5, .int .i64 n, .slice (some ⟨b, o, none⟩) 2 cap] 25) = W1 at *
 have HT12 : ∀ w' : World, (TxS w 5 n b o cap T0 T1 a0 n0 a1 n1) w' → (TxS w 5 n b o cap T0 T1 a0 n0 a1 n1) w' := fun w' h => h
 refine AnyTwo.begin (TxS w 5 n b o cap T0 T1 a0 n0 a1 n1) (TxS w 5 n b o cap T0 T1 a0 n0 a1 n1) 14 (by kernel_rfl) ?_
 have hS1 : (TxS w 5 n b o cap T0 T1 a0 n0 a1 n1) _ := ⟨HB.out.drew, row3_drew HV.out, row3_drew HX0.out, row3_drew HX1.out⟩
 refine AnyTwo.tk HT12 (i := 0) (oi := ⟨some 87, _, _, _, _, _⟩) rfl (ph_one (by kernel_rfl) hS1) ?_
 try simp only [pts]
 refine AnyTwo.tk HT12 (i := 1) (oi := ⟨some 88, _, _, _, _, _⟩) rfl (ph_one (by kernel_rfl) hS1) ?_
 try simp only [pts]
 refine AnyTwo.tk HT12 (i := 2) (oi := ⟨some 89, _, _, _, _, _⟩) rfl (ph_one (by kernel_rfl) hS1) ?_
 try simp only [pts]
 refine AnyTwo.tk HT12 (i := 3) (oi := ⟨some 90, _, _, _, _, _⟩) rfl (ph_one (by kernel_rfl) hS1) ?_
 try simp only [pts]
 refine AnyTwo.tk HT12 (i := 7) (oi := ⟨some 94, _, _, _, _, _⟩) rfl (ph_one (by kernel_rfl) hS1) ?_
 try simp only [pts]
 refine AnyTwo.tk HT12 (i := 8) (oi := ⟨some 95, _, _, _, _, _⟩) rfl (ph_one (by kernel_rfl) hS1) ?_
 try simp only [pts]
 refine AnyTwo.tk HT12 (i := 9) (oi := ⟨some 96, _, _, _, _, _⟩) rfl (ph_one (by kernel_rfl) hS1) ?_
 try simp only [pts]
 refine AnyTwo.tk HT12 (i := 10) (oi := ⟨some 97, _, _, _, _, _⟩) rfl (ph_one (by kernel_rfl) hS1) ?_
 try simp only [pts]
 refine AnyTwo.step (i := 4) (o := ⟨some 91, _, _, _, _, _⟩) (by kernel_rfl) rfl (fun K hK => ?_)
 go_simp
 refine (HK0.out _ _ (HS0.out.below hS1.1)).mono ?_
 rintro e w7 ⟨rfl, hb7⟩
 have hS1' : (TxS w 5 n b o cap T0 T1 a0 n0 a1 n1) _ := ⟨bAfter hS1.1 hb7, row3_below hS1.2.1 hb7, row3_below hS1.2.2.1 hb7, row3_below hS1.2.2.2 hb7⟩
 refine hK.out _ _ (ph_one (by kernel_rfl) hS1') ?_
 clear hK K hS1
 have hS1 := hS1'
 clear hS1'
 try simp only [pts]
 refine AnyTwo.tk HT12 (i := 5) (oi := ⟨some 92, _, _, _, _, _⟩) rfl (ph_one (by kernel_rfl) hS1) ?_
 try simp only [pts]
 refine AnyTwo.tk HT12 (i := 6) (oi := ⟨some 93, _, _, _, _, _⟩) rfl (ph_one (by kernel_rfl) hS1) ?_
 try simp only [pts]
 refine AnyTwo.step (i := 11) (o := ⟨some 98, _, _, _, _, _⟩) (by kernel_rfl) rfl (fun K hK => ?_)
 go_simp
 refine (HK1.out _ _ (HS1.out.below hS1.1)).mono ?_
 rintro e w7 ⟨rfl, hb7⟩
 have hS1' : (TxS w 5 n b o cap T0 T1 a0 n0 a1 n1) _ := ⟨bAfter hS1.1 hb7, row3_below hS1.2.1 hb7, row3_below hS1.2.2.1 hb7, row3_below hS1.2.2.2 hb7⟩
 refine hK.out _ _ (ph_one (by kernel_rfl) hS1') ?_
 clear hK K hS1
 have hS1 := hS1'
 clear hS1'
 try simp only [pts]
 refine AnyTwo.tk HT12 (i := 12) (oi := ⟨some 99, _, _, _, _, _⟩) rfl (ph_one (by kernel_rfl) hS1) ?_
 try simp only [pts]
 refine AnyTwo.tk HT12 (i := 13) (oi := ⟨some 100, _, _, _, _, _⟩) rfl (ph_one (by kernel_rfl) hS1) ?_
 try simp only [pts]
 refine AnyTwo.step (i := 14) (o := ⟨some 2, _, _, _, _, _⟩) (by kernel_rfl) rfl (fun K hK => ?_)
 go_simp
 refine hK.out _ _ (ph_end (by kernel_rfl) hS1) ?_
 clear hK K
 try simp only [pts]
 refine AnyTwo.done (by kernel_rfl) ?_ _
 clear HT12
 have HB2 := tuck hS1.1
 clear hS1
 go_wp2_with fail
 exact HP.out _ _ (by rw [HE.out]) HB2.out
set_option maxRecDepth 100000 in
set_option maxHeartbeats 1600000 in
theorem text4_any (n : Int) (l : List Tm) (hok : (Tm.mk 4 n l).allOk) (hsz : sizes l ≤ 1000000)
  (hrec : ∀ i (hi : i < l.length) (w' : World) (s : Value), SlIn w' 0 l[i].kids s → Calls Tryz.prog 74 #[.agg #[.int .i64 l[i].kind, .int .i64 l[i].num, s]] w' (StrPost w' l[i].txt))
  (w : World) (v : Value) (hs : SlIn w 0 l v) : Calls Tryz.prog 74 #[.agg #[.int .i64 4, .int .i64 n, v]] w (StrPost w (Tm.mk 4 n l).txt) := by
 have hlen : l.length = 2 := by
  rw [Tm.allOk] at hok
  have := hok.1.1
  rw [show arity 4 = 2 by decide] at this
  omega
 have HP : Hid (∀ s w', s = (Tm.mk 4 n l).txt → Below w.heap.size w w' → StrPost w (Tm.mk 4 n l).txt (.returned (.string s)) w') := tuck fun s w' h hb => by rw [h]; exact ⟨rfl, hb⟩
 generalize StrPost w (Tm.mk 4 n l).txt = post at *
 obtain ⟨a, cap, b, o, rfl, -, hp, hc⟩ := hs.open
 obtain ⟨rfl, -, hbw⟩ := hp (by intro e; rw [e] at hlen; simp at hlen)
 obtain ⟨s0, c00, c01, c02, hs0⟩ := hc 0 (by omega)
 have HK0 := tuck (fun w' s => hrec 0 (by omega) w' s)
 have ht0 : l[0].txt.size ≤ 8000100 := by
  have h1 := l[0].txt_size
  have h2 := size_get_le l 0 (by omega)
  omega
 have hx0 := kidS_txt l 0 (by omega)
 generalize l[0] = T0 at *
 obtain ⟨a0, n0, rfl⟩ := hs0.form
 have HS0 := tuck hs0
 obtain ⟨X0, hX0⟩ : ∃ X, X = T0.txt := ⟨_, rfl⟩
 rw [← hX0] at HK0 ht0 hx0
 clear hX0 hs0
 have HROW0 : Hid (∀ w', Below w.heap.size w w' → b < w'.heap.size ∧ w'.cell? ⟨b, o, none⟩ = some (.int .i64 T0.kind) ∧ w'.cell? ⟨b, o + 1, none⟩ = some (.int .i64 T0.num) ∧ w'.cell? ⟨b, o + 2, none⟩ = some (.slice a0 T0.kids.length n0)) := tuck fun w' h =>
  ⟨Nat.lt_of_lt_of_le hbw h.size, (h.cell (p := ⟨b, o, none⟩) hbw).trans (by simpa using c00), (h.cell (p := ⟨b, o + 1, none⟩) hbw).trans (by simpa using c01), (h.cell (p := ⟨b, o + 2, none⟩) hbw).trans (by simpa using c02)⟩
 clear c00 c01 c02
 obtain ⟨s1, c10, c11, c12, hs1⟩ := hc 1 (by omega)
 have HK1 := tuck (fun w' s => hrec 1 (by omega) w' s)
 have ht1 : l[1].txt.size ≤ 8000100 := by
  have h1 := l[1].txt_size
  have h2 := size_get_le l 1 (by omega)
  omega
 have hx1 := kidS_txt l 1 (by omega)
 generalize l[1] = T1 at *
 obtain ⟨a1, n1, rfl⟩ := hs1.form
 have HS1 := tuck hs1
 obtain ⟨X1, hX1⟩ : ∃ X, X = T1.txt := ⟨_, rfl⟩
 rw [← hX1] at HK1 ht1 hx1
 clear hX1 hs1
 have HROW1 : Hid (∀ w', Below w.heap.size w w' → b < w'.heap.size ∧ w'.cell? ⟨b, o + 3, none⟩ = some (.int .i64 T1.kind) ∧ w'.cell? ⟨b, o + 4, none⟩ = some (.int .i64 T1.num) ∧ w'.cell? ⟨b, o + 5, none⟩ = some (.slice a1 T1.kids.length n1)) := tuck fun w' h =>
  ⟨Nat.lt_of_lt_of_le hbw h.size, (h.cell (p := ⟨b, o + 3, none⟩) hbw).trans (by simpa using c10), (h.cell (p := ⟨b, o + 4, none⟩) hbw).trans (by simpa using c11), (h.cell (p := ⟨b, o + 5, none⟩) hbw).trans (by simpa using c12)⟩
 clear c10 c11 c12
 have HE : Hid ((Tm.mk 4 n l).txt = (ByteArray.mk #[91]) ++ X0 ++ (ByteArray.mk #[93]) ++ X1) := tuck (by rw [Tm.txt, ← hx0, ← hx1]; rfl)
 have z1 : ¬ (9223372036854775807 < 1 + X0.size) := by omega
 have z2 : ¬ (9223372036854775807 < 1 + X0.size + 1) := by omega
 have z3 : ¬ (9223372036854775807 < 1 + X0.size + 1 + X1.size) := by omega
 have z4 : ¬ (9223372036854775807 < 1 + X0.size + 1 + X1.size + 1) := by omega
 have HB := tuck (below1 w (.cells #[.int .i64 4, .int .i64 n, .slice (some ⟨b, o, none⟩) 2 cap] 25))
 have HV : Hid ((w.heap.size < (w.alloc (.cells #[.int .i64 4, .int .i64 n, .slice (some ⟨b, o, none⟩) 2 cap] 25)).heap.size ∧ (w.alloc (.cells #[.int .i64 4, .int .i64 n, .slice (some ⟨b, o, none⟩) 2 cap] 25)).cell? ⟨w.heap.size, 0, none⟩ = some (.int .i64 4) ∧ (w.alloc (.cells #[.int .i64 4, .int .i64 n, .slice (some ⟨b, o, none⟩) 2 cap] 25)).cell? ⟨w.heap.size, 1, none⟩ = some (.int .i64 n) ∧ (w.alloc (.cells #[.int .i64 4, .int .i64 n, .slice (some ⟨b, o, none⟩) 2 cap] 25)).cell? ⟨w.heap.size, 2, none⟩ = some (.slice (some ⟨b, o, none⟩) 2 cap))) := by
  obtain ⟨h1, h2, h3, h4, -⟩ := (VarAt.new w 4 n (.slice (some ⟨b, o, none⟩) 2 cap)).facts
  exact ⟨h1, h2, h3, h4⟩
 have HX0 := tuck (HROW0.out _ HB.out)
 have HX1 := tuck (HROW1.out _ HB.out)
 rw [hlen] at *
 clear hrec hok hsz hc hp hx0 ht0 HROW0 hx1 ht1 HROW1 hlen
 go_enter Tryz.func74, Tryz.ntmps74
 go_wp2_with fail
 generalize w.alloc (.cells #[.int .i64 4, .int .i64 n, .slice (some ⟨b, o, none⟩) 2 cap] 25) = W1 at *
 have HT12 : ∀ w' : World, (TxS w 4 n b o cap T0 T1 a0 n0 a1 n1) w' → (TxS w 4 n b o cap T0 T1 a0 n0 a1 n1) w' := fun w' h => h
 refine AnyTwo.begin (TxS w 4 n b o cap T0 T1 a0 n0 a1 n1) (TxS w 4 n b o cap T0 T1 a0 n0 a1 n1) 13 (by kernel_rfl) ?_
 have hS1 : (TxS w 4 n b o cap T0 T1 a0 n0 a1 n1) _ := ⟨HB.out.drew, row3_drew HV.out, row3_drew HX0.out, row3_drew HX1.out⟩
 refine AnyTwo.tk HT12 (i := 0) (oi := ⟨some 103, _, _, _, _, _⟩) rfl (ph_one (by kernel_rfl) hS1) ?_
 try simp only [pts]
 refine AnyTwo.tk HT12 (i := 1) (oi := ⟨some 104, _, _, _, _, _⟩) rfl (ph_one (by kernel_rfl) hS1) ?_
 try simp only [pts]
 refine AnyTwo.tk HT12 (i := 2) (oi := ⟨some 105, _, _, _, _, _⟩) rfl (ph_one (by kernel_rfl) hS1) ?_
 try simp only [pts]
 refine AnyTwo.tk HT12 (i := 3) (oi := ⟨some 106, _, _, _, _, _⟩) rfl (ph_one (by kernel_rfl) hS1) ?_
 try simp only [pts]
 refine AnyTwo.tk HT12 (i := 7) (oi := ⟨some 110, _, _, _, _, _⟩) rfl (ph_one (by kernel_rfl) hS1) ?_
 try simp only [pts]
 refine AnyTwo.tk HT12 (i := 8) (oi := ⟨some 111, _, _, _, _, _⟩) rfl (ph_one (by kernel_rfl) hS1) ?_
 try simp only [pts]
 refine AnyTwo.tk HT12 (i := 9) (oi := ⟨some 112, _, _, _, _, _⟩) rfl (ph_one (by kernel_rfl) hS1) ?_
 try simp only [pts]
 refine AnyTwo.tk HT12 (i := 10) (oi := ⟨some 113, _, _, _, _, _⟩) rfl (ph_one (by kernel_rfl) hS1) ?_
 try simp only [pts]
 refine AnyTwo.step (i := 4) (o := ⟨some 107, _, _, _, _, _⟩) (by kernel_rfl) rfl (fun K hK => ?_)
 go_simp
 refine (HK0.out _ _ (HS0.out.below hS1.1)).mono ?_
 rintro e w7 ⟨rfl, hb7⟩
 have hS1' : (TxS w 4 n b o cap T0 T1 a0 n0 a1 n1) _ := ⟨bAfter hS1.1 hb7, row3_below hS1.2.1 hb7, row3_below hS1.2.2.1 hb7, row3_below hS1.2.2.2 hb7⟩
 refine hK.out _ _ (ph_one (by kernel_rfl) hS1') ?_
 clear hK K hS1
 have hS1 := hS1'
 clear hS1'
 try simp only [pts]
 refine AnyTwo.tk HT12 (i := 5) (oi := ⟨some 108, _, _, _, _, _⟩) rfl (ph_one (by kernel_rfl) hS1) ?_
 try simp only [pts]
 refine AnyTwo.tk HT12 (i := 6) (oi := ⟨some 109, _, _, _, _, _⟩) rfl (ph_one (by kernel_rfl) hS1) ?_
 try simp only [pts]
 refine AnyTwo.step (i := 11) (o := ⟨some 114, _, _, _, _, _⟩) (by kernel_rfl) rfl (fun K hK => ?_)
 go_simp
 refine (HK1.out _ _ (HS1.out.below hS1.1)).mono ?_
 rintro e w7 ⟨rfl, hb7⟩
 have hS1' : (TxS w 4 n b o cap T0 T1 a0 n0 a1 n1) _ := ⟨bAfter hS1.1 hb7, row3_below hS1.2.1 hb7, row3_below hS1.2.2.1 hb7, row3_below hS1.2.2.2 hb7⟩
 refine hK.out _ _ (ph_one (by kernel_rfl) hS1') ?_
 clear hK K hS1
 have hS1 := hS1'
 clear hS1'
 try simp only [pts]
 refine AnyTwo.tk HT12 (i := 12) (oi := ⟨some 115, _, _, _, _, _⟩) rfl (ph_one (by kernel_rfl) hS1) ?_
 try simp only [pts]
 refine AnyTwo.step (i := 13) (o := ⟨some 2, _, _, _, _, _⟩) (by kernel_rfl) rfl (fun K hK => ?_)
 go_simp
 refine hK.out _ _ (ph_end (by kernel_rfl) hS1) ?_
 clear hK K
 try simp only [pts]
 refine AnyTwo.done (by kernel_rfl) ?_ _
 clear HT12
 have HB2 := tuck hS1.1
 clear hS1
 go_wp2_with fail
 exact HP.out _ _ (by rw [HE.out]) HB2.out
set_option maxRecDepth 100000 in
set_option maxHeartbeats 1600000 in
theorem text10_any (n : Int) (l : List Tm) (hok : (Tm.mk 10 n l).allOk) (hsz : sizes l ≤ 1000000)
  (hrec : ∀ i (hi : i < l.length) (w' : World) (s : Value), SlIn w' 0 l[i].kids s → Calls Tryz.prog 74 #[.agg #[.int .i64 l[i].kind, .int .i64 l[i].num, s]] w' (StrPost w' l[i].txt))
  (w : World) (v : Value) (hs : SlIn w 0 l v) : Calls Tryz.prog 74 #[.agg #[.int .i64 10, .int .i64 n, v]] w (StrPost w (Tm.mk 10 n l).txt) := by
 have hlen : l.length = 3 := by
  rw [Tm.allOk] at hok
  have := hok.1.1
  rw [show arity 10 = 3 by decide] at this
  omega
 have HP : Hid (∀ s w', s = (Tm.mk 10 n l).txt → Below w.heap.size w w' → StrPost w (Tm.mk 10 n l).txt (.returned (.string s)) w') := tuck fun s w' h hb => by rw [h]; exact ⟨rfl, hb⟩
 generalize StrPost w (Tm.mk 10 n l).txt = post at *
 have HL : Hid (∀ (W : World) (s : Value), SlIn W 0 l s → Calls Tryz.prog 83 #[s] W (StrPost W (joinN (txtL l) 3))) := tuck fun W s h => by have := list_any l (by omega) hsz hrec W s h; rwa [hlen] at this
 have HS := tuck hs
 obtain ⟨a, cap, b, o, rfl, -, hp, hc⟩ := hs.open
 obtain ⟨rfl, -, hbw⟩ := hp (by intro e; rw [e] at hlen; simp at hlen)
 have hjs : (joinN (txtL l) 3).size ≤ 8000100 := by
  have h1 := joinN_le (txtL l) 3
  have h2 := sumS_take_le (txtL l) 3
  have h3 := txtL_sum l
  omega
 have HE : Hid ((Tm.mk 10 n l).txt = (ByteArray.mk #[123]) ++ joinN (txtL l) 3 ++ (ByteArray.mk #[125])) := tuck (by rw [Tm.txt]; rfl)
 generalize joinN (txtL l) 3 = X at *
 have z1 : ¬ (9223372036854775807 < 1 + X.size) := by omega
 have z2 : ¬ (9223372036854775807 < 1 + X.size + 1) := by omega
 have HB := tuck (below1 w (.cells #[.int .i64 10, .int .i64 n, .slice (some ⟨b, o, none⟩) 3 cap] 25))
 rw [hlen] at *
 clear hrec hok hsz hc hp hjs hlen
 go_enter Tryz.func74, Tryz.ntmps74
 go_wp2_with fail
 refine (HL.out _ _ (HS.out.below HB.out)).mono ?_
 rintro e w2 ⟨rfl, hb2⟩
 have HB2 := tuck (bAfter HB.out hb2)
 clear hb2
 go_wp2_with fail
 exact HP.out _ _ (by rw [HE.out]) HB2.out
set_option maxRecDepth 100000 in
set_option maxHeartbeats 1600000 in
theorem text14_any (n : Int) (l : List Tm) (hok : (Tm.mk 14 n l).allOk) (hsz : sizes l ≤ 1000000)
  (hrec : ∀ i (hi : i < l.length) (w' : World) (s : Value), SlIn w' 0 l[i].kids s → Calls Tryz.prog 74 #[.agg #[.int .i64 l[i].kind, .int .i64 l[i].num, s]] w' (StrPost w' l[i].txt))
  (w : World) (v : Value) (hs : SlIn w 0 l v) : Calls Tryz.prog 74 #[.agg #[.int .i64 14, .int .i64 n, v]] w (StrPost w (Tm.mk 14 n l).txt) := by
 have hlen : l.length = 3 := by
  rw [Tm.allOk] at hok
  have := hok.1.1
  rw [show arity 14 = 3 by decide] at this
  omega
 have HP : Hid (∀ s w', s = (Tm.mk 14 n l).txt → Below w.heap.size w w' → StrPost w (Tm.mk 14 n l).txt (.returned (.string s)) w') := tuck fun s w' h hb => by rw [h]; exact ⟨rfl, hb⟩
 generalize StrPost w (Tm.mk 14 n l).txt = post at *
 have HL : Hid (∀ (W : World) (s : Value), SlIn W 0 l s → Calls Tryz.prog 83 #[s] W (StrPost W (joinN (txtL l) 3))) := tuck fun W s h => by have := list_any l (by omega) hsz hrec W s h; rwa [hlen] at this
 have HS := tuck hs
 obtain ⟨a, cap, b, o, rfl, -, hp, hc⟩ := hs.open
 obtain ⟨rfl, -, hbw⟩ := hp (by intro e; rw [e] at hlen; simp at hlen)
 have hjs : (joinN (txtL l) 3).size ≤ 8000100 := by
  have h1 := joinN_le (txtL l) 3
  have h2 := sumS_take_le (txtL l) 3
  have h3 := txtL_sum l
  omega
 have HE : Hid ((Tm.mk 14 n l).txt = (ByteArray.mk #[124]) ++ joinN (txtL l) 3 ++ (ByteArray.mk #[124])) := tuck (by rw [Tm.txt]; rfl)
 generalize joinN (txtL l) 3 = X at *
 have z1 : ¬ (9223372036854775807 < 1 + X.size) := by omega
 have z2 : ¬ (9223372036854775807 < 1 + X.size + 1) := by omega
 have HB := tuck (below1 w (.cells #[.int .i64 14, .int .i64 n, .slice (some ⟨b, o, none⟩) 3 cap] 25))
 rw [hlen] at *
 clear hrec hok hsz hc hp hjs hlen
 go_enter Tryz.func74, Tryz.ntmps74
 go_wp2_with fail
 refine (HL.out _ _ (HS.out.below HB.out)).mono ?_
 rintro e w2 ⟨rfl, hb2⟩
 have HB2 := tuck (bAfter HB.out hb2)
 clear hb2
 go_wp2_with fail
 exact HP.out _ _ (by rw [HE.out]) HB2.out
set_option maxRecDepth 100000 in
set_option maxHeartbeats 1600000 in
theorem text12_any (n : Int) (l : List Tm) (hok : (Tm.mk 12 n l).allOk) (hsz : sizes l ≤ 1000000)
  (hrec : ∀ i (hi : i < l.length) (w' : World) (s : Value), SlIn w' 0 l[i].kids s → Calls Tryz.prog 74 #[.agg #[.int .i64 l[i].kind, .int .i64 l[i].num, s]] w' (StrPost w' l[i].txt))
  (w : World) (v : Value) (hs : SlIn w 0 l v) : Calls Tryz.prog 74 #[.agg #[.int .i64 12, .int .i64 n, v]] w (StrPost w (Tm.mk 12 n l).txt) := by
 have hlen : l.length = 3 := by
  rw [Tm.allOk] at hok
  have := hok.1.1
  rw [show arity 12 = 3 by decide] at this
  omega
 have HP : Hid (∀ s w', s = (Tm.mk 12 n l).txt → Below w.heap.size w w' → StrPost w (Tm.mk 12 n l).txt (.returned (.string s)) w') := tuck fun s w' h hb => by rw [h]; exact ⟨rfl, hb⟩
 generalize StrPost w (Tm.mk 12 n l).txt = post at *
 have HL : Hid (∀ (W : World) (s : Value), SlIn W 0 l s → Calls Tryz.prog 83 #[s] W (StrPost W (joinN (txtL l) 3))) := tuck fun W s h => by have := list_any l (by omega) hsz hrec W s h; rwa [hlen] at this
 have HS := tuck hs
 obtain ⟨a, cap, b, o, rfl, -, hp, hc⟩ := hs.open
 obtain ⟨rfl, -, hbw⟩ := hp (by intro e; rw [e] at hlen; simp at hlen)
 have hjs : (joinN (txtL l) 3).size ≤ 8000100 := by
  have h1 := joinN_le (txtL l) 3
  have h2 := sumS_take_le (txtL l) 3
  have h3 := txtL_sum l
  omega
 have HE : Hid ((Tm.mk 12 n l).txt = (ByteArray.mk #[64, 60]) ++ joinN (txtL l) 3 ++ (ByteArray.mk #[62])) := tuck (by rw [Tm.txt]; rfl)
 generalize joinN (txtL l) 3 = X at *
 have z1 : ¬ (9223372036854775807 < 2 + X.size) := by omega
 have z2 : ¬ (9223372036854775807 < 2 + X.size + 1) := by omega
 have HB := tuck (below1 w (.cells #[.int .i64 12, .int .i64 n, .slice (some ⟨b, o, none⟩) 3 cap] 25))
 rw [hlen] at *
 clear hrec hok hsz hc hp hjs hlen
 go_enter Tryz.func74, Tryz.ntmps74
 go_wp2_with fail
 refine (HL.out _ _ (HS.out.below HB.out)).mono ?_
 rintro e w2 ⟨rfl, hb2⟩
 have HB2 := tuck (bAfter HB.out hb2)
 clear hb2
 go_wp2_with fail
 exact HP.out _ _ (by rw [HE.out]) HB2.out
set_option maxRecDepth 100000 in
set_option maxHeartbeats 1600000 in
theorem text9_any (n : Int) (l : List Tm) (hok : (Tm.mk 9 n l).allOk) (hsz : sizes l ≤ 1000000)
  (hrec : ∀ i (hi : i < l.length) (w' : World) (s : Value), SlIn w' 0 l[i].kids s → Calls Tryz.prog 74 #[.agg #[.int .i64 l[i].kind, .int .i64 l[i].num, s]] w' (StrPost w' l[i].txt))
  (w : World) (v : Value) (hs : SlIn w 0 l v) : Calls Tryz.prog 74 #[.agg #[.int .i64 9, .int .i64 n, v]] w (StrPost w (Tm.mk 9 n l).txt) := by
 have hlen : l.length = 4 := by
  rw [Tm.allOk] at hok
  have := hok.1.1
  rw [show arity 9 = 4 by decide] at this
  omega
 have HP : Hid (∀ s w', s = (Tm.mk 9 n l).txt → Below w.heap.size w w' → StrPost w (Tm.mk 9 n l).txt (.returned (.string s)) w') := tuck fun s w' h hb => by rw [h]; exact ⟨rfl, hb⟩
 generalize StrPost w (Tm.mk 9 n l).txt = post at *
 have HL : Hid (∀ (W : World) (s : Value), SlIn W 0 l s → Calls Tryz.prog 83 #[s] W (StrPost W (joinN (txtL l) 4))) := tuck fun W s h => by have := list_any l (by omega) hsz hrec W s h; rwa [hlen] at this
 have HS := tuck hs
 obtain ⟨a, cap, b, o, rfl, -, hp, hc⟩ := hs.open
 obtain ⟨rfl, -, hbw⟩ := hp (by intro e; rw [e] at hlen; simp at hlen)
 have hjs : (joinN (txtL l) 4).size ≤ 8000100 := by
  have h1 := joinN_le (txtL l) 4
  have h2 := sumS_take_le (txtL l) 4
  have h3 := txtL_sum l
  omega
 have HE : Hid ((Tm.mk 9 n l).txt = (ByteArray.mk #[60]) ++ joinN (txtL l) 4 ++ (ByteArray.mk #[62])) := tuck (by rw [Tm.txt]; rfl)
 generalize joinN (txtL l) 4 = X at *
 have z1 : ¬ (9223372036854775807 < 1 + X.size) := by omega
 have z2 : ¬ (9223372036854775807 < 1 + X.size + 1) := by omega
 have HB := tuck (below1 w (.cells #[.int .i64 9, .int .i64 n, .slice (some ⟨b, o, none⟩) 4 cap] 25))
 rw [hlen] at *
 clear hrec hok hsz hc hp hjs hlen
 go_enter Tryz.func74, Tryz.ntmps74
 go_wp2_with fail
 refine (HL.out _ _ (HS.out.below HB.out)).mono ?_
 rintro e w2 ⟨rfl, hb2⟩
 have HB2 := tuck (bAfter HB.out hb2)
 clear hb2
 go_wp2_with fail
 exact HP.out _ _ (by rw [HE.out]) HB2.out
theorem text_any : ∀ (l : List Tm) (k n : Int) (w : World) (v : Value), (Tm.mk k n l).allOk → sizes l ≤ 1000000 → SlIn w 0 l v → Calls Tryz.prog 74 #[.agg #[.int .i64 k, .int .i64 n, v]] w (StrPost w (Tm.mk k n l).txt) := by
 intro l
 induction l using Tm.ind with
 | h l ih =>
  intro k n w v hok hsz hs
  have hok2 := hok
  rw [Tm.allOk] at hok2
  obtain ⟨hr, hkok⟩ := hok2
  have hrec : ∀ i (hi : i < l.length) (w' : World) (s : Value), SlIn w' 0 l[i].kids s → Calls Tryz.prog 74 #[.agg #[.int .i64 l[i].kind, .int .i64 l[i].num, s]] w' (StrPost w' l[i].txt) := fun i hi w' s h => by
   have h1 := ih i hi l[i].kind l[i].num w' s (by rw [Tm.eta]; exact (allsOk_iff _).1 hkok _ (List.getElem_mem hi)) (by have := kids_get_lt l i hi; omega) h
   rwa [Tm.eta] at h1
  by_cases h1 : k = 1
  ·subst h1; exact text1_any n l hok hsz hrec w v hs
  by_cases h2 : k = 2
  ·subst h2; exact text2_any n l hok hsz hrec w v hs
  by_cases h6 : k = 6
  ·subst h6; exact text6_any n l hok hsz hrec w v hs
  by_cases h7 : k = 7
  ·subst h7; exact text7_any n l hok hsz hrec w v hs
  by_cases h8 : k = 8
  ·subst h8; exact text8_any n l hok hsz hrec w v hs
  by_cases h11 : k = 11
  ·subst h11; exact text11_any n l hok hsz hrec w v hs
  by_cases h15 : k = 15
  ·subst h15; exact text15_any n l hok hsz hrec w v hs
  by_cases h16 : k = 16
  ·subst h16; exact text16_any n l hok hsz hrec w v hs
  by_cases h3 : k = 3
  ·subst h3; exact text3_any n l hok hsz hrec w v hs
  by_cases h13 : k = 13
  ·subst h13; exact text13_any n l hok hsz hrec w v hs
  by_cases h5 : k = 5
  ·subst h5; exact text5_any n l hok hsz hrec w v hs
  by_cases h4 : k = 4
  ·subst h4; exact text4_any n l hok hsz hrec w v hs
  by_cases h10 : k = 10
  ·subst h10; exact text10_any n l hok hsz hrec w v hs
  by_cases h14 : k = 14
  ·subst h14; exact text14_any n l hok hsz hrec w v hs
  by_cases h12 : k = 12
  ·subst h12; exact text12_any n l hok hsz hrec w v hs
  by_cases h9 : k = 9
  ·subst h9; exact text9_any n l hok hsz hrec w v hs
  exfalso
  have := hr.1
  unfold arity at this
  (repeat' split at this) <;> omega
theorem ba_inj {a b : ByteArray} (h : a.toList = b.toList) : a = b := by
 rw [ByteArray.toList_eq, ByteArray.toList_eq] at h
 exact ByteArray.ext (Array.toList_inj.1 h)
theorem ba_ne {s : ByteArray} (h : s.size ≠ 0) : ¬ s.toList = [] := fun e => h (by
 rw [ByteArray.toList_eq] at e
 have h2 := congrArg List.length e
 rw [Array.length_toList] at h2
 exact h2)
theorem ba_ne' {s : ByteArray} (h : s.size ≠ 0) : s.toList.isEmpty = false := by
 cases hs : s.toList with
 | nil => exact absurd hs (ba_ne h)
 | cons x l => rfl
noncomputable def fmtOf (T : Tm) : ByteArray := @ite _ T.Valid (Classical.propDecidable _) T.txt (ByteArray.mk #[])
theorem fmtOf_yes {T : Tm} (h : T.Valid) : fmtOf T = T.txt := if_pos h
theorem fmtOf_no {T : Tm} (h : ¬ T.Valid) : fmtOf T = ByteArray.mk #[] := if_neg h
set_option maxRecDepth 100000 in
set_option maxHeartbeats 1600000 in
theorem format_any (T : Tm) (w : World) (v : Value) (h : TmIn w 0 T v) : Calls Tryz.prog 62 #[v] w (StrPost w (fmtOf T)) := by
 obtain ⟨s, rfl, hin⟩ := h
 obtain ⟨ta, tc, rfl⟩ := hin.form
 have HP : Hid (∀ s w', s = fmtOf T → Below w.heap.size w w' → StrPost w (fmtOf T) (.returned (.string s)) w') := tuck fun s w' h hb => by rw [h]; exact ⟨rfl, hb⟩
 generalize StrPost w (fmtOf T) = post at *
 have HB := tuck (below1 w (.cells #[.int .i64 T.kind, .int .i64 T.num, .slice ta T.kids.length tc] 25))
 have HV := tuck (VarAt.new w T.kind T.num (.slice ta T.kids.length tc))
 have HVAL : Hid (∀ W : World, Below w.heap.size w W → Calls Tryz.prog 16 #[.agg #[.int .i64 T.kind, .int .i64 T.num, .slice ta T.kids.length tc]] W (BoolPost W (tr T.Valid))) := tuck fun W h => validS_any T W _ ⟨_, rfl, hin.below h⟩
 by_cases hT : T.Valid
 ·have HTX : Hid (∀ W : World, Below w.heap.size w W → Calls Tryz.prog 74 #[.agg #[.int .i64 T.kind, .int .i64 T.num, .slice ta T.kids.length tc]] W (StrPost W T.txt)) := tuck fun W h => by
   have h1 := text_any T.kids T.kind T.num W _ (by rw [Tm.eta]; exact hT.1) (by have := hT.2.2; have := T.size_eq; omega) (hin.below h)
   rwa [Tm.eta] at h1
  rw [tr_of hT] at HVAL
  have HPE := tuck (fun w' h => HP.out T.txt w' (fmtOf_yes hT).symm h)
  generalize T.txt = X at *
  clear hT hin HP
  go_enter Tryz.func62, Tryz.ntmps62
  go_wp2_with fail
  generalize w.alloc (.cells #[.int .i64 T.kind, .int .i64 T.num, .slice ta T.kids.length tc] 25) = W1 at *
  refine (HVAL.out _ HB.out).mono ?_
  rintro e w2 ⟨rfl, hb2⟩
  have HB2 := tuck (bAfter HB.out hb2)
  obtain ⟨z0, c0, c1, c2, -⟩ := (HV.out.below hb2).facts
  clear hb2
  go_wp2_with fail
  refine (HTX.out _ HB2.out).mono ?_
  rintro e w3 ⟨rfl, hb3⟩
  have HB3 := tuck (bAfter HB2.out hb3)
  clear hb3
  go_wp2_with fail
  exact HPE.out _ HB3.out
 ·rw [tr_not hT] at HVAL
  have HPE := tuck (fun w' h => HP.out _ w' (fmtOf_no hT).symm h)
  clear hT hin HP
  go_enter Tryz.func62, Tryz.ntmps62
  go_wp2_with fail
  generalize w.alloc (.cells #[.int .i64 T.kind, .int .i64 T.num, .slice ta T.kids.length tc] 25) = W1 at *
  refine (HVAL.out _ HB.out).mono ?_
  rintro e w2 ⟨rfl, hb2⟩
  have HB2 := tuck (bAfter HB.out hb2)
  clear hb2
  go_wp2_with fail
  exact HPE.out _ HB2.out
end Go.Proofs.YtlbikgnanabjgaaGreat
