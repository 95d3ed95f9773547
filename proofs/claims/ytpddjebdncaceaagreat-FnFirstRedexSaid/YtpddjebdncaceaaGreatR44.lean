/-
  TextC.
-/
import Derived.Test.YtpddjebdncaceaaGreatR43
namespace Go.Proofs.YtpddjebdncaceaaGreat
open Go.RowKit
theorem row3_below {w w' : World} {b i j k : Nat} {x y z : Value} (h : b < w.heap.size ∧ w.cell? ⟨b, i, none⟩ = some x ∧ w.cell? ⟨b, j, none⟩ = some y ∧ w.cell? ⟨b, k, none⟩ = some z) (hb : Below w.heap.size w w') :
  b < w'.heap.size ∧ w'.cell? ⟨b, i, none⟩ = some x ∧ w'.cell? ⟨b, j, none⟩ = some y ∧ w'.cell? ⟨b, k, none⟩ = some z :=
 ⟨Nat.lt_of_lt_of_le h.1 hb.size, (hb.cell (p := ⟨b, i, none⟩) h.1).trans h.2.1, (hb.cell (p := ⟨b, j, none⟩) h.1).trans h.2.2.1, (hb.cell (p := ⟨b, k, none⟩) h.1).trans h.2.2.2⟩
theorem row3_drew {w : World} {b i j k : Nat} {x y z : Value} (h : b < w.heap.size ∧ w.cell? ⟨b, i, none⟩ = some x ∧ w.cell? ⟨b, j, none⟩ = some y ∧ w.cell? ⟨b, k, none⟩ = some z) :
  b < w.drew.heap.size ∧ w.drew.cell? ⟨b, i, none⟩ = some x ∧ w.drew.cell? ⟨b, j, none⟩ = some y ∧ w.drew.cell? ⟨b, k, none⟩ = some z := h
set_option maxRecDepth 100000 in
set_option maxHeartbeats 1600000 in
theorem text1_any (n : Int) (l : List Tm) (hok : (Tm.mk 1 n l).allOk) (hsz : sizes l ≤ 1000000)
  (hrec : ∀ i (hi : i < l.length) (w' : World) (s : Value), SlIn w' 0 l[i].kids s → Calls Tryz.prog 143 #[.agg #[.int .i64 l[i].kind, .int .i64 l[i].num, s]] w' (StrPost w' l[i].txt))
  (w : World) (v : Value) (hs : SlIn w 0 l v) : Calls Tryz.prog 143 #[.agg #[.int .i64 1, .int .i64 n, v]] w (StrPost w (Tm.mk 1 n l).txt) := by
 have hlen : l.length = 0 := by
  rw [Tm.allOk] at hok
  have := hok.1.1
  rw [show arity 1 = 0 by decide] at this
  omega
 have HP : Hid (∀ s w', s = (Tm.mk 1 n l).txt → Below w.heap.size w w' → StrPost w (Tm.mk 1 n l).txt (.returned (.string s)) w') := tuck fun s w' h hb => by rw [h]; exact ⟨rfl, hb⟩
 generalize StrPost w (Tm.mk 1 n l).txt = post at *
 have hn : 0 ≤ n ∧ n ≤ 99 := by
  rw [Tm.allOk] at hok
  have := hok.1.2
  rw [show mostN 1 = 20 by decide] at this
  omega
 obtain ⟨m, rfl⟩ : ∃ m : Nat, n = m := ⟨n.toNat, by omega⟩
 obtain rfl : l = [] := List.length_eq_zero_iff.1 hlen
 have HD : Hid (∀ W, Calls Tryz.prog 148 #[.int .i64 m] W (StrPost W (decS m))) := tuck fun W => dec_any m (by omega) W
 obtain ⟨a, cap, b, o, rfl, -, -, -⟩ := hs.open
 have HE : Hid ((Tm.mk 1 m []).txt = (ByteArray.mk #[35]) ++ decS m) := tuck (by rw [Tm.txt]; rfl)
 have hds := decS_size m
 generalize decS m = X at *
 have z1 : ¬ (9223372036854775807 < 1 + X.size) := by omega
 have HB := tuck (below1 w (.cells #[.int .i64 1, .int .i64 m, .slice a 0 cap] 34))
 clear hrec hok hsz hn hds hlen
 go_enter Tryz.func143, Tryz.ntmps143
 go_wp2_with fail
 refine (HD.out _).mono ?_
 rintro e w2 ⟨rfl, hb2⟩
 have HB2 := tuck (bAfter HB.out hb2)
 clear hb2
 go_wp2_with fail
 exact HP.out _ _ (by rw [HE.out]) HB2.out
set_option maxRecDepth 100000 in
set_option maxHeartbeats 1600000 in
theorem text2_any (n : Int) (l : List Tm) (hok : (Tm.mk 2 n l).allOk) (hsz : sizes l ≤ 1000000)
  (hrec : ∀ i (hi : i < l.length) (w' : World) (s : Value), SlIn w' 0 l[i].kids s → Calls Tryz.prog 143 #[.agg #[.int .i64 l[i].kind, .int .i64 l[i].num, s]] w' (StrPost w' l[i].txt))
  (w : World) (v : Value) (hs : SlIn w 0 l v) : Calls Tryz.prog 143 #[.agg #[.int .i64 2, .int .i64 n, v]] w (StrPost w (Tm.mk 2 n l).txt) := by
 have hlen : l.length = 0 := by
  rw [Tm.allOk] at hok
  have := hok.1.1
  rw [show arity 2 = 0 by decide] at this
  omega
 have HP : Hid (∀ s w', s = (Tm.mk 2 n l).txt → Below w.heap.size w w' → StrPost w (Tm.mk 2 n l).txt (.returned (.string s)) w') := tuck fun s w' h hb => by rw [h]; exact ⟨rfl, hb⟩
 generalize StrPost w (Tm.mk 2 n l).txt = post at *
 have hn : 0 ≤ n ∧ n ≤ 99 := by
  rw [Tm.allOk] at hok
  have := hok.1.2
  rw [show mostN 2 = 3 by decide] at this
  omega
 obtain ⟨m, rfl⟩ : ∃ m : Nat, n = m := ⟨n.toNat, by omega⟩
 obtain rfl : l = [] := List.length_eq_zero_iff.1 hlen
 have HD : Hid (∀ W, Calls Tryz.prog 148 #[.int .i64 m] W (StrPost W (decS m))) := tuck fun W => dec_any m (by omega) W
 obtain ⟨a, cap, b, o, rfl, -, -, -⟩ := hs.open
 have HE : Hid ((Tm.mk 2 m []).txt = (ByteArray.mk #[42]) ++ decS m) := tuck (by rw [Tm.txt]; rfl)
 have hds := decS_size m
 generalize decS m = X at *
 have z1 : ¬ (9223372036854775807 < 1 + X.size) := by omega
 have HB := tuck (below1 w (.cells #[.int .i64 2, .int .i64 m, .slice a 0 cap] 34))
 clear hrec hok hsz hn hds hlen
 go_enter Tryz.func143, Tryz.ntmps143
 go_wp2_with fail
 refine (HD.out _).mono ?_
 rintro e w2 ⟨rfl, hb2⟩
 have HB2 := tuck (bAfter HB.out hb2)
 clear hb2
 go_wp2_with fail
 exact HP.out _ _ (by rw [HE.out]) HB2.out
set_option maxRecDepth 100000 in
set_option maxHeartbeats 1600000 in
theorem text6_any (n : Int) (l : List Tm) (hok : (Tm.mk 6 n l).allOk) (_hsz : sizes l ≤ 1000000)
  (_hrec : ∀ i (hi : i < l.length) (w' : World) (s : Value), SlIn w' 0 l[i].kids s → Calls Tryz.prog 143 #[.agg #[.int .i64 l[i].kind, .int .i64 l[i].num, s]] w' (StrPost w' l[i].txt))
  (w : World) (v : Value) (hs : SlIn w 0 l v) : Calls Tryz.prog 143 #[.agg #[.int .i64 6, .int .i64 n, v]] w (StrPost w (Tm.mk 6 n l).txt) := by
 have hlen : l.length = 0 := by
  rw [Tm.allOk] at hok
  have := hok.1.1
  rw [show arity 6 = 0 by decide] at this
  omega
 have HP : Hid (∀ s w', s = (Tm.mk 6 n l).txt → Below w.heap.size w w' → StrPost w (Tm.mk 6 n l).txt (.returned (.string s)) w') := tuck fun s w' h hb => by rw [h]; exact ⟨rfl, hb⟩
 generalize StrPost w (Tm.mk 6 n l).txt = post at *
 obtain ⟨a, cap, b, o, rfl, -, -, -⟩ := hs.open
 clear hok
 go_enter Tryz.func143, Tryz.ntmps143
 go_wp2_with fail
 exact HP.out _ _ (by rw [Tm.txt]; rfl) (below1 _ _)
set_option maxRecDepth 100000 in
set_option maxHeartbeats 1600000 in
theorem text7_any (n : Int) (l : List Tm) (hok : (Tm.mk 7 n l).allOk) (_hsz : sizes l ≤ 1000000)
  (_hrec : ∀ i (hi : i < l.length) (w' : World) (s : Value), SlIn w' 0 l[i].kids s → Calls Tryz.prog 143 #[.agg #[.int .i64 l[i].kind, .int .i64 l[i].num, s]] w' (StrPost w' l[i].txt))
  (w : World) (v : Value) (hs : SlIn w 0 l v) : Calls Tryz.prog 143 #[.agg #[.int .i64 7, .int .i64 n, v]] w (StrPost w (Tm.mk 7 n l).txt) := by
 have hlen : l.length = 0 := by
  rw [Tm.allOk] at hok
  have := hok.1.1
  rw [show arity 7 = 0 by decide] at this
  omega
 have HP : Hid (∀ s w', s = (Tm.mk 7 n l).txt → Below w.heap.size w w' → StrPost w (Tm.mk 7 n l).txt (.returned (.string s)) w') := tuck fun s w' h hb => by rw [h]; exact ⟨rfl, hb⟩
 generalize StrPost w (Tm.mk 7 n l).txt = post at *
 obtain ⟨a, cap, b, o, rfl, -, -, -⟩ := hs.open
 clear hok
 go_enter Tryz.func143, Tryz.ntmps143
 go_wp2_with fail
 exact HP.out _ _ (by rw [Tm.txt]; rfl) (below1 _ _)
set_option maxRecDepth 100000 in
set_option maxHeartbeats 1600000 in
theorem text8_any (n : Int) (l : List Tm) (hok : (Tm.mk 8 n l).allOk) (hsz : sizes l ≤ 1000000)
  (hrec : ∀ i (hi : i < l.length) (w' : World) (s : Value), SlIn w' 0 l[i].kids s → Calls Tryz.prog 143 #[.agg #[.int .i64 l[i].kind, .int .i64 l[i].num, s]] w' (StrPost w' l[i].txt))
  (w : World) (v : Value) (hs : SlIn w 0 l v) : Calls Tryz.prog 143 #[.agg #[.int .i64 8, .int .i64 n, v]] w (StrPost w (Tm.mk 8 n l).txt) := by
 have hlen : l.length = 1 := by
  rw [Tm.allOk] at hok
  have := hok.1.1
  rw [show arity 8 = 1 by decide] at this
  omega
 have HP : Hid (∀ s w', s = (Tm.mk 8 n l).txt → Below w.heap.size w w' → StrPost w (Tm.mk 8 n l).txt (.returned (.string s)) w') := tuck fun s w' h hb => by rw [h]; exact ⟨rfl, hb⟩
 generalize StrPost w (Tm.mk 8 n l).txt = post at *
 obtain ⟨a, cap, b, o, rfl, -, hp, hc⟩ := hs.open
 obtain ⟨rfl, -, hbw⟩ := hp (by intro e; rw [e] at hlen; simp at hlen)
 obtain ⟨s0, c00, c01, c02, hs0⟩ := hc 0 (by omega)
 have HK0 := tuck (fun w' s => hrec 0 (by omega) w' s)
 have ht0 : l[0].txt.size ≤ 8000100 := by
  have h1 := l[0].txt_size
  have h2 := size_get_le l 0 (by omega)
  omega
 have hx0 := kidS_txt l 0 (by omega)
 generalize l[0] = T0 at *
 obtain ⟨a0, n0, rfl⟩ := hs0.form
 have HS0 := tuck hs0
 obtain ⟨X0, hX0⟩ : ∃ X, X = T0.txt := ⟨_, rfl⟩
 rw [← hX0] at HK0 ht0 hx0
 clear hX0 hs0
 have HROW0 : Hid (∀ w', Below w.heap.size w w' → b < w'.heap.size ∧ w'.cell? ⟨b, o, none⟩ = some (.int .i64 T0.kind) ∧ w'.cell? ⟨b, o + 1, none⟩ = some (.int .i64 T0.num) ∧ w'.cell? ⟨b, o + 2, none⟩ = some (.slice a0 T0.kids.length n0)) := tuck fun w' h =>
  ⟨Nat.lt_of_lt_of_le hbw h.size, (h.cell (p := ⟨b, o, none⟩) hbw).trans (by simpa using c00), (h.cell (p := ⟨b, o + 1, none⟩) hbw).trans (by simpa using c01), (h.cell (p := ⟨b, o + 2, none⟩) hbw).trans (by simpa using c02)⟩
 clear c00 c01 c02
 have HE : Hid ((Tm.mk 8 n l).txt = (ByteArray.mk #[43]) ++ X0) := tuck (by rw [Tm.txt, ← hx0]; rfl)
 have z1 : ¬ (9223372036854775807 < 1 + X0.size) := by omega
 have HB := tuck (below1 w (.cells #[.int .i64 8, .int .i64 n, .slice (some ⟨b, o, none⟩) 1 cap] 34))
 obtain ⟨zb, k0, k1, k2⟩ := HROW0.out _ HB.out
 rw [hlen] at *
 clear hrec hok hsz hc hp hx0 ht0 HROW0 hlen
 go_enter Tryz.func143, Tryz.ntmps143
 go_wp2_with fail
 refine (HK0.out _ _ (HS0.out.below HB.out)).mono ?_
 rintro e w2 ⟨rfl, hb2⟩
 have HB2 := tuck (bAfter HB.out hb2)
 clear hb2
 go_wp2_with fail
 exact HP.out _ _ (by rw [HE.out]) HB2.out
set_option maxRecDepth 100000 in
set_option maxHeartbeats 1600000 in
theorem text11_any (n : Int) (l : List Tm) (hok : (Tm.mk 11 n l).allOk) (hsz : sizes l ≤ 1000000)
  (hrec : ∀ i (hi : i < l.length) (w' : World) (s : Value), SlIn w' 0 l[i].kids s → Calls Tryz.prog 143 #[.agg #[.int .i64 l[i].kind, .int .i64 l[i].num, s]] w' (StrPost w' l[i].txt))
  (w : World) (v : Value) (hs : SlIn w 0 l v) : Calls Tryz.prog 143 #[.agg #[.int .i64 11, .int .i64 n, v]] w (StrPost w (Tm.mk 11 n l).txt) := by
 have hlen : l.length = 1 := by
  rw [Tm.allOk] at hok
  have := hok.1.1
  rw [show arity 11 = 1 by decide] at this
  omega
 have HP : Hid (∀ s w', s = (Tm.mk 11 n l).txt → Below w.heap.size w w' → StrPost w (Tm.mk 11 n l).txt (.returned (.string s)) w') := tuck fun s w' h hb => by rw [h]; exact ⟨rfl, hb⟩
 generalize StrPost w (Tm.mk 11 n l).txt = post at *
 obtain ⟨a, cap, b, o, rfl, -, hp, hc⟩ := hs.open
 obtain ⟨rfl, -, hbw⟩ := hp (by intro e; rw [e] at hlen; simp at hlen)
 obtain ⟨s0, c00, c01, c02, hs0⟩ := hc 0 (by omega)
 have HK0 := tuck (fun w' s => hrec 0 (by omega) w' s)
 have ht0 : l[0].txt.size ≤ 8000100 := by
  have h1 := l[0].txt_size
  have h2 := size_get_le l 0 (by omega)
  omega
 have hx0 := kidS_txt l 0 (by omega)
 generalize l[0] = T0 at *
 obtain ⟨a0, n0, rfl⟩ := hs0.form
 have HS0 := tuck hs0
 obtain ⟨X0, hX0⟩ : ∃ X, X = T0.txt := ⟨_, rfl⟩
 rw [← hX0] at HK0 ht0 hx0
 clear hX0 hs0
 have HROW0 : Hid (∀ w', Below w.heap.size w w' → b < w'.heap.size ∧ w'.cell? ⟨b, o, none⟩ = some (.int .i64 T0.kind) ∧ w'.cell? ⟨b, o + 1, none⟩ = some (.int .i64 T0.num) ∧ w'.cell? ⟨b, o + 2, none⟩ = some (.slice a0 T0.kids.length n0)) := tuck fun w' h =>
  ⟨Nat.lt_of_lt_of_le hbw h.size, (h.cell (p := ⟨b, o, none⟩) hbw).trans (by simpa using c00), (h.cell (p := ⟨b, o + 1, none⟩) hbw).trans (by simpa using c01), (h.cell (p := ⟨b, o + 2, none⟩) hbw).trans (by simpa using c02)⟩
 clear c00 c01 c02
 have HE : Hid ((Tm.mk 11 n l).txt = (ByteArray.mk #[33]) ++ X0) := tuck (by rw [Tm.txt, ← hx0]; rfl)
 have z1 : ¬ (9223372036854775807 < 1 + X0.size) := by omega
 have HB := tuck (below1 w (.cells #[.int .i64 11, .int .i64 n, .slice (some ⟨b, o, none⟩) 1 cap] 34))
 obtain ⟨zb, k0, k1, k2⟩ := HROW0.out _ HB.out
 rw [hlen] at *
 clear hrec hok hsz hc hp hx0 ht0 HROW0 hlen
 go_enter Tryz.func143, Tryz.ntmps143
 go_wp2_with fail
 refine (HK0.out _ _ (HS0.out.below HB.out)).mono ?_
 rintro e w2 ⟨rfl, hb2⟩
 have HB2 := tuck (bAfter HB.out hb2)
 clear hb2
 go_wp2_with fail
 exact HP.out _ _ (by rw [HE.out]) HB2.out
set_option maxRecDepth 100000 in
set_option maxHeartbeats 1600000 in
theorem text15_any (n : Int) (l : List Tm) (hok : (Tm.mk 15 n l).allOk) (hsz : sizes l ≤ 1000000)
  (hrec : ∀ i (hi : i < l.length) (w' : World) (s : Value), SlIn w' 0 l[i].kids s → Calls Tryz.prog 143 #[.agg #[.int .i64 l[i].kind, .int .i64 l[i].num, s]] w' (StrPost w' l[i].txt))
  (w : World) (v : Value) (hs : SlIn w 0 l v) : Calls Tryz.prog 143 #[.agg #[.int .i64 15, .int .i64 n, v]] w (StrPost w (Tm.mk 15 n l).txt) := by
 have hlen : l.length = 1 := by
  rw [Tm.allOk] at hok
  have := hok.1.1
  rw [show arity 15 = 1 by decide] at this
  omega
 have HP : Hid (∀ s w', s = (Tm.mk 15 n l).txt → Below w.heap.size w w' → StrPost w (Tm.mk 15 n l).txt (.returned (.string s)) w') := tuck fun s w' h hb => by rw [h]; exact ⟨rfl, hb⟩
 generalize StrPost w (Tm.mk 15 n l).txt = post at *
 obtain ⟨a, cap, b, o, rfl, -, hp, hc⟩ := hs.open
 obtain ⟨rfl, -, hbw⟩ := hp (by intro e; rw [e] at hlen; simp at hlen)
 obtain ⟨s0, c00, c01, c02, hs0⟩ := hc 0 (by omega)
 have HK0 := tuck (fun w' s => hrec 0 (by omega) w' s)
 have ht0 : l[0].txt.size ≤ 8000100 := by
  have h1 := l[0].txt_size
  have h2 := size_get_le l 0 (by omega)
  omega
 have hx0 := kidS_txt l 0 (by omega)
 generalize l[0] = T0 at *
 obtain ⟨a0, n0, rfl⟩ := hs0.form
 have HS0 := tuck hs0
 obtain ⟨X0, hX0⟩ : ∃ X, X = T0.txt := ⟨_, rfl⟩
 rw [← hX0] at HK0 ht0 hx0
 clear hX0 hs0
 have HROW0 : Hid (∀ w', Below w.heap.size w w' → b < w'.heap.size ∧ w'.cell? ⟨b, o, none⟩ = some (.int .i64 T0.kind) ∧ w'.cell? ⟨b, o + 1, none⟩ = some (.int .i64 T0.num) ∧ w'.cell? ⟨b, o + 2, none⟩ = some (.slice a0 T0.kids.length n0)) := tuck fun w' h =>
  ⟨Nat.lt_of_lt_of_le hbw h.size, (h.cell (p := ⟨b, o, none⟩) hbw).trans (by simpa using c00), (h.cell (p := ⟨b, o + 1, none⟩) hbw).trans (by simpa using c01), (h.cell (p := ⟨b, o + 2, none⟩) hbw).trans (by simpa using c02)⟩
 clear c00 c01 c02
 have HE : Hid ((Tm.mk 15 n l).txt = (ByteArray.mk #[94]) ++ X0) := tuck (by rw [Tm.txt, ← hx0]; rfl)
 have z1 : ¬ (9223372036854775807 < 1 + X0.size) := by omega
 have HB := tuck (below1 w (.cells #[.int .i64 15, .int .i64 n, .slice (some ⟨b, o, none⟩) 1 cap] 34))
 obtain ⟨zb, k0, k1, k2⟩ := HROW0.out _ HB.out
 rw [hlen] at *
 clear hrec hok hsz hc hp hx0 ht0 HROW0 hlen
 go_enter Tryz.func143, Tryz.ntmps143
 go_wp2_with fail
 refine (HK0.out _ _ (HS0.out.below HB.out)).mono ?_
 rintro e w2 ⟨rfl, hb2⟩
 have HB2 := tuck (bAfter HB.out hb2)
 clear hb2
 go_wp2_with fail
 exact HP.out _ _ (by rw [HE.out]) HB2.out
set_option maxRecDepth 100000 in
set_option maxHeartbeats 1600000 in
theorem text16_any (n : Int) (l : List Tm) (hok : (Tm.mk 16 n l).allOk) (hsz : sizes l ≤ 1000000)
  (hrec : ∀ i (hi : i < l.length) (w' : World) (s : Value), SlIn w' 0 l[i].kids s → Calls Tryz.prog 143 #[.agg #[.int .i64 l[i].kind, .int .i64 l[i].num, s]] w' (StrPost w' l[i].txt))
  (w : World) (v : Value) (hs : SlIn w 0 l v) : Calls Tryz.prog 143 #[.agg #[.int .i64 16, .int .i64 n, v]] w (StrPost w (Tm.mk 16 n l).txt) := by
 have hlen : l.length = 1 := by
  rw [Tm.allOk] at hok
  have := hok.1.1
  rw [show arity 16 = 1 by decide] at this
  omega
 have HP : Hid (∀ s w', s = (Tm.mk 16 n l).txt → Below w.heap.size w w' → StrPost w (Tm.mk 16 n l).txt (.returned (.string s)) w') := tuck fun s w' h hb => by rw [h]; exact ⟨rfl, hb⟩
 generalize StrPost w (Tm.mk 16 n l).txt = post at *
 obtain ⟨a, cap, b, o, rfl, -, hp, hc⟩ := hs.open
 obtain ⟨rfl, -, hbw⟩ := hp (by intro e; rw [e] at hlen; simp at hlen)
 obtain ⟨s0, c00, c01, c02, hs0⟩ := hc 0 (by omega)
 have HK0 := tuck (fun w' s => hrec 0 (by omega) w' s)
 have ht0 : l[0].txt.size ≤ 8000100 := by
  have h1 := l[0].txt_size
  have h2 := size_get_le l 0 (by omega)
  omega
 have hx0 := kidS_txt l 0 (by omega)
 generalize l[0] = T0 at *
 obtain ⟨a0, n0, rfl⟩ := hs0.form
 have HS0 := tuck hs0
 obtain ⟨X0, hX0⟩ : ∃ X, X = T0.txt := ⟨_, rfl⟩
 rw [← hX0] at HK0 ht0 hx0
 clear hX0 hs0
 have HROW0 : Hid (∀ w', Below w.heap.size w w' → b < w'.heap.size ∧ w'.cell? ⟨b, o, none⟩ = some (.int .i64 T0.kind) ∧ w'.cell? ⟨b, o + 1, none⟩ = some (.int .i64 T0.num) ∧ w'.cell? ⟨b, o + 2, none⟩ = some (.slice a0 T0.kids.length n0)) := tuck fun w' h =>
  ⟨Nat.lt_of_lt_of_le hbw h.size, (h.cell (p := ⟨b, o, none⟩) hbw).trans (by simpa using c00), (h.cell (p := ⟨b, o + 1, none⟩) hbw).trans (by simpa using c01), (h.cell (p := ⟨b, o + 2, none⟩) hbw).trans (by simpa using c02)⟩
 clear c00 c01 c02
 have HE : Hid ((Tm.mk 16 n l).txt = (ByteArray.mk #[95]) ++ X0) := tuck (by rw [Tm.txt, ← hx0]; rfl)
 have z1 : ¬ (9223372036854775807 < 1 + X0.size) := by omega
 have HB := tuck (below1 w (.cells #[.int .i64 16, .int .i64 n, .slice (some ⟨b, o, none⟩) 1 cap] 34))
 obtain ⟨zb, k0, k1, k2⟩ := HROW0.out _ HB.out
 rw [hlen] at *
 clear hrec hok hsz hc hp hx0 ht0 HROW0 hlen
 go_enter Tryz.func143, Tryz.ntmps143
 go_wp2_with fail
 refine (HK0.out _ _ (HS0.out.below HB.out)).mono ?_
 rintro e w2 ⟨rfl, hb2⟩
 have HB2 := tuck (bAfter HB.out hb2)
 clear hb2
 go_wp2_with fail
 exact HP.out _ _ (by rw [HE.out]) HB2.out
set_option maxRecDepth 100000 in
set_option maxHeartbeats 1600000 in
theorem text3_any (n : Int) (l : List Tm) (hok : (Tm.mk 3 n l).allOk) (hsz : sizes l ≤ 1000000)
  (hrec : ∀ i (hi : i < l.length) (w' : World) (s : Value), SlIn w' 0 l[i].kids s → Calls Tryz.prog 143 #[.agg #[.int .i64 l[i].kind, .int .i64 l[i].num, s]] w' (StrPost w' l[i].txt))
  (w : World) (v : Value) (hs : SlIn w 0 l v) : Calls Tryz.prog 143 #[.agg #[.int .i64 3, .int .i64 n, v]] w (StrPost w (Tm.mk 3 n l).txt) := by
 have hlen : l.length = 2 := by
  rw [Tm.allOk] at hok
  have := hok.1.1
  rw [show arity 3 = 2 by decide] at this
  omega
 have HP : Hid (∀ s w', s = (Tm.mk 3 n l).txt → Below w.heap.size w w' → StrPost w (Tm.mk 3 n l).txt (.returned (.string s)) w') := tuck fun s w' h hb => by rw [h]; exact ⟨rfl, hb⟩
 generalize StrPost w (Tm.mk 3 n l).txt = post at *
 obtain ⟨a, cap, b, o, rfl, -, hp, hc⟩ := hs.open
 obtain ⟨rfl, -, hbw⟩ := hp (by intro e; rw [e] at hlen; simp at hlen)
 obtain ⟨s0, c00, c01, c02, hs0⟩ := hc 0 (by omega)
 have HK0 := tuck (fun w' s => hrec 0 (by omega) w' s)
 have ht0 : l[0].txt.size ≤ 8000100 := by
  have h1 := l[0].txt_size
  have h2 := size_get_le l 0 (by omega)
  omega
 have hx0 := kidS_txt l 0 (by omega)
 generalize l[0] = T0 at *
 obtain ⟨a0, n0, rfl⟩ := hs0.form
 have HS0 := tuck hs0
 obtain ⟨X0, hX0⟩ : ∃ X, X = T0.txt := ⟨_, rfl⟩
 rw [← hX0] at HK0 ht0 hx0
 clear hX0 hs0
 have HROW0 : Hid (∀ w', Below w.heap.size w w' → b < w'.heap.size ∧ w'.cell? ⟨b, o, none⟩ = some (.int .i64 T0.kind) ∧ w'.cell? ⟨b, o + 1, none⟩ = some (.int .i64 T0.num) ∧ w'.cell? ⟨b, o + 2, none⟩ = some (.slice a0 T0.kids.length n0)) := tuck fun w' h =>
  ⟨Nat.lt_of_lt_of_le hbw h.size, (h.cell (p := ⟨b, o, none⟩) hbw).trans (by simpa using c00), (h.cell (p := ⟨b, o + 1, none⟩) hbw).trans (by simpa using c01), (h.cell (p := ⟨b, o + 2, none⟩) hbw).trans (by simpa using c02)⟩
 clear c00 c01 c02
 obtain ⟨s1, c10, c11, c12, hs1⟩ := hc 1 (by omega)
 have HK1 := tuck (fun w' s => hrec 1 (by omega) w' s)
 have ht1 : l[1].txt.size ≤ 8000100 := by
  have h1 := l[1].txt_size
  have h2 := size_get_le l 1 (by omega)
  omega
 have hx1 := kidS_txt l 1 (by omega)
 generalize l[1] = T1 at *
 obtain ⟨a1, n1, rfl⟩ := hs1.form
 have HS1 := tuck hs1
 obtain ⟨X1, hX1⟩ : ∃ X, X = T1.txt := ⟨_, rfl⟩
 rw [← hX1] at HK1 ht1 hx1
 clear hX1 hs1
 have HROW1 : Hid (∀ w', Below w.heap.size w w' → b < w'.heap.size ∧ w'.cell? ⟨b, o + 3, none⟩ = some (.int .i64 T1.kind) ∧ w'.cell? ⟨b, o + 4, none⟩ = some (.int .i64 T1.num) ∧ w'.cell? ⟨b, o + 5, none⟩ = some (.slice a1 T1.kids.length n1)) := tuck fun w' h =>
  ⟨Nat.lt_of_lt_of_le hbw h.size, (h.cell (p := ⟨b, o + 3, none⟩) hbw).trans (by simpa using c10), (h.cell (p := ⟨b, o + 4, none⟩) hbw).trans (by simpa using c11), (h.cell (p := ⟨b, o + 5, none⟩) hbw).trans (by simpa using c12)⟩
 clear c10 c11 c12
 have HE : Hid ((Tm.mk 3 n l).txt = (ByteArray.mk #[40]) ++ X0 ++ (ByteArray.mk #[62]) ++ X1 ++ (ByteArray.mk #[41])) := tuck (by rw [Tm.txt, ← hx0, ← hx1]; rfl)
 have z1 : ¬ (9223372036854775807 < 1 + X0.size) := by omega
 have z2 : ¬ (9223372036854775807 < 1 + X0.size + 1) := by omega
 have z3 : ¬ (9223372036854775807 < 1 + X0.size + 1 + X1.size) := by omega
 have z4 : ¬ (9223372036854775807 < 1 + X0.size + 1 + X1.size + 1) := by omega
 have HB := tuck (below1 w (.cells #[.int .i64 3, .int .i64 n, .slice (some ⟨b, o, none⟩) 2 cap] 34))
 have HV : Hid ((w.heap.size < (w.alloc (.cells #[.int .i64 3, .int .i64 n, .slice (some ⟨b, o, none⟩) 2 cap] 34)).heap.size ∧ (w.alloc (.cells #[.int .i64 3, .int .i64 n, .slice (some ⟨b, o, none⟩) 2 cap] 34)).cell? ⟨w.heap.size, 0, none⟩ = some (.int .i64 3) ∧ (w.alloc (.cells #[.int .i64 3, .int .i64 n, .slice (some ⟨b, o, none⟩) 2 cap] 34)).cell? ⟨w.heap.size, 1, none⟩ = some (.int .i64 n) ∧ (w.alloc (.cells #[.int .i64 3, .int .i64 n, .slice (some ⟨b, o, none⟩) 2 cap] 34)).cell? ⟨w.heap.size, 2, none⟩ = some (.slice (some ⟨b, o, none⟩) 2 cap))) := by
  obtain ⟨h1, h2, h3, h4, -⟩ := (VarAt.new w 3 n (.slice (some ⟨b, o, none⟩) 2 cap)).facts
  exact ⟨h1, h2, h3, h4⟩
 have HX0 := tuck (HROW0.out _ HB.out)
 have HX1 := tuck (HROW1.out _ HB.out)
 rw [hlen] at *
 clear hrec hok hsz hc hp hx0 ht0 HROW0 hx1 ht1 HROW1 hlen
 go_enter Tryz.func143, Tryz.ntmps143
 go_wp2_with fail
 generalize w.alloc (.cells #[.int .i64 3, .int .i64 n, .slice (some ⟨b, o, none⟩) 2 cap] 34) = W1 at *
 have HT12 : ∀ w' : World, (fun w' : World => Below w.heap.size w w' ∧ (w.heap.size < w'.heap.size ∧ w'.cell? ⟨w.heap.size, 0, none⟩ = some (.int .i64 3) ∧ w'.cell? ⟨w.heap.size, 1, none⟩ = some (.int .i64 n) ∧ w'.cell? ⟨w.heap.size, 2, none⟩ = some (.slice (some ⟨b, o, none⟩) 2 cap)) ∧ (b < w'.heap.size ∧ w'.cell? ⟨b, o, none⟩ = some (.int .i64 T0.kind) ∧ w'.cell? ⟨b, o + 1, none⟩ = some (.int .i64 T0.num) ∧ w'.cell? ⟨b, o + 2, none⟩ = some (.slice a0 T0.kids.length n0)) ∧ (b < w'.heap.size ∧ w'.cell? ⟨b, o + 3, none⟩ = some (.int .i64 T1.kind) ∧ w'.cell? ⟨b, o + 4, none⟩ = some (.int .i64 T1.num) ∧ w'.cell? ⟨b, o + 5, none⟩ = some (.slice a1 T1.kids.length n1))) w' → (fun w' : World => Below w.heap.size w w' ∧ (w.heap.size < w'.heap.size ∧ w'.cell? ⟨w.heap.size, 0, none⟩ = some (.int .i64 3) ∧ w'.cell? ⟨w.heap.size, 1, none⟩ = some (.int .i64 n) ∧ w'.cell? ⟨w.heap.size, 2, none⟩ = some (.slice (some ⟨b, o, none⟩) 2 cap)) ∧ (b < w'.heap.size ∧ w'.cell? ⟨b, o, none⟩ = some (.int .i64 T0.kind) ∧ w'.cell? ⟨b, o + 1, none⟩ = some (.int .i64 T0.num) ∧ w'.cell? ⟨b, o + 2, none⟩ = some (.slice a0 T0.kids.length n0)) ∧ (b < w'.heap.size ∧ w'.cell? ⟨b, o + 3, none⟩ = some (.int .i64 T1.kind) ∧ w'.cell? ⟨b, o + 4, none⟩ = some (.int .i64 T1.num) ∧ w'.cell? ⟨b, o + 5, none⟩ = some (.slice a1 T1.kids.length n1))) w' := fun w' h => h
 refine AnyTwo.begin (fun w' : World => Below w.heap.size w w' ∧ (w.heap.size < w'.heap.size ∧ w'.cell? ⟨w.heap.size, 0, none⟩ = some (.int .i64 3) ∧ w'.cell? ⟨w.heap.size, 1, none⟩ = some (.int .i64 n) ∧ w'.cell? ⟨w.heap.size, 2, none⟩ = some (.slice (some ⟨b, o, none⟩) 2 cap)) ∧ (b < w'.heap.size ∧ w'.cell? ⟨b, o, none⟩ = some (.int .i64 T0.kind) ∧ w'.cell? ⟨b, o + 1, none⟩ = some (.int .i64 T0.num) ∧ w'.cell? ⟨b, o + 2, none⟩ = some (.slice a0 T0.kids.length n0)) ∧ (b < w'.heap.size ∧ w'.cell? ⟨b, o + 3, none⟩ = some (.int .i64 T1.kind) ∧ w'.cell? ⟨b, o + 4, none⟩ = some (.int .i64 T1.num) ∧ w'.cell? ⟨b, o + 5, none⟩ = some (.slice a1 T1.kids.length n1))) (fun w' : World => Below w.heap.size w w' ∧ (w.heap.size < w'.heap.size ∧ w'.cell? ⟨w.heap.size, 0, none⟩ = some (.int .i64 3) ∧ w'.cell? ⟨w.heap.size, 1, none⟩ = some (.int .i64 n) ∧ w'.cell? ⟨w.heap.size, 2, none⟩ = some (.slice (some ⟨b, o, none⟩) 2 cap)) ∧ (b < w'.heap.size ∧ w'.cell? ⟨b, o, none⟩ = some (.int .i64 T0.kind) ∧ w'.cell? ⟨b, o + 1, none⟩ = some (.int .i64 T0.num) ∧ w'.cell? ⟨b, o + 2, none⟩ = some (.slice a0 T0.kids.length n0)) ∧ (b < w'.heap.size ∧ w'.cell? ⟨b, o + 3, none⟩ = some (.int .i64 T1.kind) ∧ w'.cell? ⟨b, o + 4, none⟩ = some (.int .i64 T1.num) ∧ w'.cell? ⟨b, o + 5, none⟩ = some (.slice a1 T1.kids.length n1))) 14 (by kernel_rfl) ?_
 have hS1 : (fun w' : World => Below w.heap.size w w' ∧ (w.heap.size < w'.heap.size ∧ w'.cell? ⟨w.heap.size, 0, none⟩ = some (.int .i64 3) ∧ w'.cell? ⟨w.heap.size, 1, none⟩ = some (.int .i64 n) ∧ w'.cell? ⟨w.heap.size, 2, none⟩ = some (.slice (some ⟨b, o, none⟩) 2 cap)) ∧ (b < w'.heap.size ∧ w'.cell? ⟨b, o, none⟩ = some (.int .i64 T0.kind) ∧ w'.cell? ⟨b, o + 1, none⟩ = some (.int .i64 T0.num) ∧ w'.cell? ⟨b, o + 2, none⟩ = some (.slice a0 T0.kids.length n0)) ∧ (b < w'.heap.size ∧ w'.cell? ⟨b, o + 3, none⟩ = some (.int .i64 T1.kind) ∧ w'.cell? ⟨b, o + 4, none⟩ = some (.int .i64 T1.num) ∧ w'.cell? ⟨b, o + 5, none⟩ = some (.slice a1 T1.kids.length n1))) _ := ⟨HB.out.drew, row3_drew HV.out, row3_drew HX0.out, row3_drew HX1.out⟩
 refine AnyTwo.takeAny HT12 (i := 0) (oi := { dst := some 55, op := _, type := _, pos := _, after := _, guard := _ }) (v := ?vr1) rfl (by kernel_rfl) (by kernel_rfl) (by decide +kernel) (by rfl) (fun _ _ _ h => h) (Or.inl ⟨by rfl, ?yr1⟩) (ph_one (by kernel_rfl) hS1) ?rr1
 case yr1 => (intro w hSw; (try dsimp only at hSw); go_simp; try (with_reducible rfl))
 try simp only [Act.put, List.setIfInBounds_toArray, List.set_cons_zero, List.set_cons_succ]
 refine AnyTwo.takeAny HT12 (i := 1) (oi := { dst := some 56, op := _, type := _, pos := _, after := _, guard := _ }) (v := ?vr2) rfl (by kernel_rfl) (by kernel_rfl) (by decide +kernel) (by rfl) (fun _ _ _ h => h) (Or.inl ⟨by rfl, ?yr2⟩) (ph_one (by kernel_rfl) hS1) ?rr2
 case yr2 => (intro w hSw; (try dsimp only at hSw); go_simp; try (with_reducible rfl))
 try simp only [Act.put, List.setIfInBounds_toArray, List.set_cons_zero, List.set_cons_succ]
 refine AnyTwo.takeAny HT12 (i := 2) (oi := { dst := some 57, op := _, type := _, pos := _, after := _, guard := _ }) (v := ?vr3) rfl (by kernel_rfl) (by kernel_rfl) (by decide +kernel) (by rfl) (fun _ _ _ h => h) (Or.inl ⟨by rfl, ?yr3⟩) (ph_one (by kernel_rfl) hS1) ?rr3
 case yr3 => (intro w hSw; (try dsimp only at hSw); go_simp; try (with_reducible rfl))
 try simp only [Act.put, List.setIfInBounds_toArray, List.set_cons_zero, List.set_cons_succ]
 refine AnyTwo.takeAny HT12 (i := 3) (oi := { dst := some 58, op := _, type := _, pos := _, after := _, guard := _ }) (v := ?vr4) rfl (by kernel_rfl) (by kernel_rfl) (by decide +kernel) (by rfl) (fun _ _ _ h => h) (Or.inl ⟨by rfl, ?yr4⟩) (ph_one (by kernel_rfl) hS1) ?rr4
 case yr4 => (intro w hSw; (try dsimp only at hSw); go_simp; try (with_reducible rfl))
 try simp only [Act.put, List.setIfInBounds_toArray, List.set_cons_zero, List.set_cons_succ]
 refine AnyTwo.takeAny HT12 (i := 7) (oi := { dst := some 62, op := _, type := _, pos := _, after := _, guard := _ }) (v := ?vr5) rfl (by kernel_rfl) (by kernel_rfl) (by decide +kernel) (by rfl) (fun _ _ _ h => h) (Or.inl ⟨by rfl, ?yr5⟩) (ph_one (by kernel_rfl) hS1) ?rr5
 case yr5 => (intro w hSw; (try dsimp only at hSw); go_simp; try (with_reducible rfl))
 try simp only [Act.put, List.setIfInBounds_toArray, List.set_cons_zero, List.set_cons_succ]
 refine AnyTwo.takeAny HT12 (i := 8) (oi := { dst := some 63, op := _, type := _, pos := _, after := _, guard := _ }) (v := ?vr6) rfl (by kernel_rfl) (by kernel_rfl) (by decide +kernel) (by rfl) (fun _ _ _ h => h) (Or.inl ⟨by rfl, ?yr6⟩) (ph_one (by kernel_rfl) hS1) ?rr6
 case yr6 => (intro w hSw; (try dsimp only at hSw); go_simp; try (with_reducible rfl))
 try simp only [Act.put, List.setIfInBounds_toArray, List.set_cons_zero, List.set_cons_succ]
 refine AnyTwo.takeAny HT12 (i := 9) (oi := { dst := some 64, op := _, type := _, pos := _, after := _, guard := _ }) (v := ?vr7) rfl (by kernel_rfl) (by kernel_rfl) (by decide +kernel) (by rfl) (fun _ _ _ h => h) (Or.inl ⟨by rfl, ?yr7⟩) (ph_one (by kernel_rfl) hS1) ?rr7
 case yr7 => (intro w hSw; (try dsimp only at hSw); go_simp; try (with_reducible rfl))
 try simp only [Act.put, List.setIfInBounds_toArray, List.set_cons_zero, List.set_cons_succ]
 refine AnyTwo.takeAny HT12 (i := 10) (oi := { dst := some 65, op := _, type := _, pos := _, after := _, guard := _ }) (v := ?vr8) rfl (by kernel_rfl) (by kernel_rfl) (by decide +kernel) (by rfl) (fun _ _ _ h => h) (Or.inl ⟨by rfl, ?yr8⟩) (ph_one (by kernel_rfl) hS1) ?rr8
 case yr8 => (intro w hSw; (try dsimp only at hSw); go_simp; try (with_reducible rfl))
 try simp only [Act.put, List.setIfInBounds_toArray, List.set_cons_zero, List.set_cons_succ]
 refine AnyTwo.step (i := 4) (o := { dst := some 59, op := _, type := _, pos := _, after := _, guard := _ }) (by kernel_rfl) rfl (fun K hK => ?_)
 go_simp
 refine (HK0.out _ _ (HS0.out.below hS1.1)).mono ?_
 rintro e w7 ⟨rfl, hb7⟩
 have hS1' : (fun w' : World => Below w.heap.size w w' ∧ (w.heap.size < w'.heap.size ∧ w'.cell? ⟨w.heap.size, 0, none⟩ = some (.int .i64 3) ∧ w'.cell? ⟨w.heap.size, 1, none⟩ = some (.int .i64 n) ∧ w'.cell? ⟨w.heap.size, 2, none⟩ = some (.slice (some ⟨b, o, none⟩) 2 cap)) ∧ (b < w'.heap.size ∧ w'.cell? ⟨b, o, none⟩ = some (.int .i64 T0.kind) ∧ w'.cell? ⟨b, o + 1, none⟩ = some (.int .i64 T0.num) ∧ w'.cell? ⟨b, o + 2, none⟩ = some (.slice a0 T0.kids.length n0)) ∧ (b < w'.heap.size ∧ w'.cell? ⟨b, o + 3, none⟩ = some (.int .i64 T1.kind) ∧ w'.cell? ⟨b, o + 4, none⟩ = some (.int .i64 T1.num) ∧ w'.cell? ⟨b, o + 5, none⟩ = some (.slice a1 T1.kids.length n1))) _ := ⟨bAfter hS1.1 hb7, row3_below hS1.2.1 hb7, row3_below hS1.2.2.1 hb7, row3_below hS1.2.2.2 hb7⟩
 refine hK.out _ _ (ph_one (by kernel_rfl) hS1') ?_
 clear hK K hS1
 have hS1 := hS1'
 clear hS1'
 try simp only [Act.put, List.setIfInBounds_toArray, List.set_cons_zero, List.set_cons_succ]
 refine AnyTwo.takeAny HT12 (i := 5) (oi := { dst := some 60, op := _, type := _, pos := _, after := _, guard := _ }) (v := ?vr9) rfl (by kernel_rfl) (by kernel_rfl) (by decide +kernel) (by rfl) (fun _ _ _ h => h) (Or.inl ⟨by rfl, ?yr9⟩) (ph_one (by kernel_rfl) hS1) ?rr9
 case yr9 => (intro w hSw; (try dsimp only at hSw); go_simp; try (with_reducible rfl))
 try simp only [Act.put, List.setIfInBounds_toArray, List.set_cons_zero, List.set_cons_succ]
 refine AnyTwo.takeAny HT12 (i := 6) (oi := { dst := some 61, op := _, type := _, pos := _, after := _, guard := _ }) (v := ?vr10) rfl (by kernel_rfl) (by kernel_rfl) (by decide +kernel) (by rfl) (fun _ _ _ h => h) (Or.inl ⟨by rfl, ?yr10⟩) (ph_one (by kernel_rfl) hS1) ?rr10
 case yr10 => (intro w hSw; (try dsimp only at hSw); go_simp; try (with_reducible rfl))
 try simp only [Act.put, List.setIfInBounds_toArray, List.set_cons_zero, List.set_cons_succ]
 refine AnyTwo.step (i := 11) (o := { dst := some 66, op := _, type := _, pos := _, after := _, guard := _ }) (by kernel_rfl) rfl (fun K hK => ?_)
 go_simp
 refine (HK1.out _ _ (HS1.out.below hS1.1)).mono ?_
 rintro e w7 ⟨rfl, hb7⟩
 have hS1' : (fun w' : World => Below w.heap.size w w' ∧ (w.heap.size < w'.heap.size ∧ w'.cell? ⟨w.heap.size, 0, none⟩ = some (.int .i64 3) ∧ w'.cell? ⟨w.heap.size, 1, none⟩ = some (.int .i64 n) ∧ w'.cell? ⟨w.heap.size, 2, none⟩ = some (.slice (some ⟨b, o, none⟩) 2 cap)) ∧ (b < w'.heap.size ∧ w'.cell? ⟨b, o, none⟩ = some (.int .i64 T0.kind) ∧ w'.cell? ⟨b, o + 1, none⟩ = some (.int .i64 T0.num) ∧ w'.cell? ⟨b, o + 2, none⟩ = some (.slice a0 T0.kids.length n0)) ∧ (b < w'.heap.size ∧ w'.cell? ⟨b, o + 3, none⟩ = some (.int .i64 T1.kind) ∧ w'.cell? ⟨b, o + 4, none⟩ = some (.int .i64 T1.num) ∧ w'.cell? ⟨b, o + 5, none⟩ = some (.slice a1 T1.kids.length n1))) _ := ⟨bAfter hS1.1 hb7, row3_below hS1.2.1 hb7, row3_below hS1.2.2.1 hb7, row3_below hS1.2.2.2 hb7⟩
 refine hK.out _ _ (ph_one (by kernel_rfl) hS1') ?_
 clear hK K hS1
 have hS1 := hS1'
 clear hS1'
 try simp only [Act.put, List.setIfInBounds_toArray, List.set_cons_zero, List.set_cons_succ]
 refine AnyTwo.takeAny HT12 (i := 12) (oi := { dst := some 67, op := _, type := _, pos := _, after := _, guard := _ }) (v := ?vr11) rfl (by kernel_rfl) (by kernel_rfl) (by decide +kernel) (by rfl) (fun _ _ _ h => h) (Or.inl ⟨by rfl, ?yr11⟩) (ph_one (by kernel_rfl) hS1) ?rr11
 case yr11 => (intro w hSw; (try dsimp only at hSw); go_simp; try (with_reducible rfl))
 try simp only [Act.put, List.setIfInBounds_toArray, List.set_cons_zero, List.set_cons_succ]
 refine AnyTwo.takeAny HT12 (i := 13) (oi := { dst := some 68, op := _, type := _, pos := _, after := _, guard := _ }) (v := ?vr12) rfl (by kernel_rfl) (by kernel_rfl) (by decide +kernel) (by rfl) (fun _ _ _ h => h) (Or.inl ⟨by rfl, ?yr12⟩) (ph_one (by kernel_rfl) hS1) ?rr12
 case yr12 => (intro w hSw; (try dsimp only at hSw); go_simp; try (with_reducible rfl))
 try simp only [Act.put, List.setIfInBounds_toArray, List.set_cons_zero, List.set_cons_succ]
 refine AnyTwo.step (i := 14) (o := { dst := some 2, op := _, type := _, pos := _, after := _, guard := _ }) (by kernel_rfl) rfl (fun K hK => ?_)
 go_simp
 refine hK.out _ _ (ph_end (by kernel_rfl) hS1) ?_
 clear hK K
 try simp only [Act.put, List.setIfInBounds_toArray, List.set_cons_zero, List.set_cons_succ]
 refine AnyTwo.done (by kernel_rfl) ?_ _
 clear HT12
 have HB2 := tuck hS1.1
 clear hS1
 go_wp2_with fail
 exact HP.out _ _ (by rw [HE.out]) HB2.out
set_option maxRecDepth 100000 in
set_option maxHeartbeats 1600000 in
theorem text13_any (n : Int) (l : List Tm) (hok : (Tm.mk 13 n l).allOk) (hsz : sizes l ≤ 1000000)
  (hrec : ∀ i (hi : i < l.length) (w' : World) (s : Value), SlIn w' 0 l[i].kids s → Calls Tryz.prog 143 #[.agg #[.int .i64 l[i].kind, .int .i64 l[i].num, s]] w' (StrPost w' l[i].txt))
  (w : World) (v : Value) (hs : SlIn w 0 l v) : Calls Tryz.prog 143 #[.agg #[.int .i64 13, .int .i64 n, v]] w (StrPost w (Tm.mk 13 n l).txt) := by
 have hlen : l.length = 2 := by
  rw [Tm.allOk] at hok
  have := hok.1.1
  rw [show arity 13 = 2 by decide] at this
  omega
 have HP : Hid (∀ s w', s = (Tm.mk 13 n l).txt → Below w.heap.size w w' → StrPost w (Tm.mk 13 n l).txt (.returned (.string s)) w') := tuck fun s w' h hb => by rw [h]; exact ⟨rfl, hb⟩
 generalize StrPost w (Tm.mk 13 n l).txt = post at *
 obtain ⟨a, cap, b, o, rfl, -, hp, hc⟩ := hs.open
 obtain ⟨rfl, -, hbw⟩ := hp (by intro e; rw [e] at hlen; simp at hlen)
 obtain ⟨s0, c00, c01, c02, hs0⟩ := hc 0 (by omega)
 have HK0 := tuck (fun w' s => hrec 0 (by omega) w' s)
 have ht0 : l[0].txt.size ≤ 8000100 := by
  have h1 := l[0].txt_size
  have h2 := size_get_le l 0 (by omega)
  omega
 have hx0 := kidS_txt l 0 (by omega)
 generalize l[0] = T0 at *
 obtain ⟨a0, n0, rfl⟩ := hs0.form
 have HS0 := tuck hs0
 obtain ⟨X0, hX0⟩ : ∃ X, X = T0.txt := ⟨_, rfl⟩
 rw [← hX0] at HK0 ht0 hx0
 clear hX0 hs0
 have HROW0 : Hid (∀ w', Below w.heap.size w w' → b < w'.heap.size ∧ w'.cell? ⟨b, o, none⟩ = some (.int .i64 T0.kind) ∧ w'.cell? ⟨b, o + 1, none⟩ = some (.int .i64 T0.num) ∧ w'.cell? ⟨b, o + 2, none⟩ = some (.slice a0 T0.kids.length n0)) := tuck fun w' h =>
  ⟨Nat.lt_of_lt_of_le hbw h.size, (h.cell (p := ⟨b, o, none⟩) hbw).trans (by simpa using c00), (h.cell (p := ⟨b, o + 1, none⟩) hbw).trans (by simpa using c01), (h.cell (p := ⟨b, o + 2, none⟩) hbw).trans (by simpa using c02)⟩
 clear c00 c01 c02
 obtain ⟨s1, c10, c11, c12, hs1⟩ := hc 1 (by omega)
 have HK1 := tuck (fun w' s => hrec 1 (by omega) w' s)
 have ht1 : l[1].txt.size ≤ 8000100 := by
  have h1 := l[1].txt_size
  have h2 := size_get_le l 1 (by omega)
  omega
 have hx1 := kidS_txt l 1 (by omega)
 generalize l[1] = T1 at *
 obtain ⟨a1, n1, rfl⟩ := hs1.form
 have HS1 := tuck hs1
 obtain ⟨X1, hX1⟩ : ∃ X, X = T1.txt := ⟨_, rfl⟩
 rw [← hX1] at HK1 ht1 hx1
 clear hX1 hs1
 have HROW1 : Hid (∀ w', Below w.heap.size w w' → b < w'.heap.size ∧ w'.cell? ⟨b, o + 3, none⟩ = some (.int .i64 T1.kind) ∧ w'.cell? ⟨b, o + 4, none⟩ = some (.int .i64 T1.num) ∧ w'.cell? ⟨b, o + 5, none⟩ = some (.slice a1 T1.kids.length n1)) := tuck fun w' h =>
  ⟨Nat.lt_of_lt_of_le hbw h.size, (h.cell (p := ⟨b, o + 3, none⟩) hbw).trans (by simpa using c10), (h.cell (p := ⟨b, o + 4, none⟩) hbw).trans (by simpa using c11), (h.cell (p := ⟨b, o + 5, none⟩) hbw).trans (by simpa using c12)⟩
 clear c10 c11 c12
 have HE : Hid ((Tm.mk 13 n l).txt = (ByteArray.mk #[40]) ++ X0 ++ (ByteArray.mk #[42]) ++ X1 ++ (ByteArray.mk #[41])) := tuck (by rw [Tm.txt, ← hx0, ← hx1]; rfl)
 have z1 : ¬ (9223372036854775807 < 1 + X0.size) := by omega
 have z2 : ¬ (9223372036854775807 < 1 + X0.size + 1) := by omega
 have z3 : ¬ (9223372036854775807 < 1 + X0.size + 1 + X1.size) := by omega
 have z4 : ¬ (9223372036854775807 < 1 + X0.size + 1 + X1.size + 1) := by omega
 have HB := tuck (below1 w (.cells #[.int .i64 13, .int .i64 n, .slice (some ⟨b, o, none⟩) 2 cap] 34))
 have HV : Hid ((w.heap.size < (w.alloc (.cells #[.int .i64 13, .int .i64 n, .slice (some ⟨b, o, none⟩) 2 cap] 34)).heap.size ∧ (w.alloc (.cells #[.int .i64 13, .int .i64 n, .slice (some ⟨b, o, none⟩) 2 cap] 34)).cell? ⟨w.heap.size, 0, none⟩ = some (.int .i64 13) ∧ (w.alloc (.cells #[.int .i64 13, .int .i64 n, .slice (some ⟨b, o, none⟩) 2 cap] 34)).cell? ⟨w.heap.size, 1, none⟩ = some (.int .i64 n) ∧ (w.alloc (.cells #[.int .i64 13, .int .i64 n, .slice (some ⟨b, o, none⟩) 2 cap] 34)).cell? ⟨w.heap.size, 2, none⟩ = some (.slice (some ⟨b, o, none⟩) 2 cap))) := by
  obtain ⟨h1, h2, h3, h4, -⟩ := (VarAt.new w 13 n (.slice (some ⟨b, o, none⟩) 2 cap)).facts
  exact ⟨h1, h2, h3, h4⟩
 have HX0 := tuck (HROW0.out _ HB.out)
 have HX1 := tuck (HROW1.out _ HB.out)
 rw [hlen] at *
 clear hrec hok hsz hc hp hx0 ht0 HROW0 hx1 ht1 HROW1 hlen
 go_enter Tryz.func143, Tryz.ntmps143
 go_wp2_with fail
 generalize w.alloc (.cells #[.int .i64 13, .int .i64 n, .slice (some ⟨b, o, none⟩) 2 cap] 34) = W1 at *
 have HT12 : ∀ w' : World, (fun w' : World => Below w.heap.size w w' ∧ (w.heap.size < w'.heap.size ∧ w'.cell? ⟨w.heap.size, 0, none⟩ = some (.int .i64 13) ∧ w'.cell? ⟨w.heap.size, 1, none⟩ = some (.int .i64 n) ∧ w'.cell? ⟨w.heap.size, 2, none⟩ = some (.slice (some ⟨b, o, none⟩) 2 cap)) ∧ (b < w'.heap.size ∧ w'.cell? ⟨b, o, none⟩ = some (.int .i64 T0.kind) ∧ w'.cell? ⟨b, o + 1, none⟩ = some (.int .i64 T0.num) ∧ w'.cell? ⟨b, o + 2, none⟩ = some (.slice a0 T0.kids.length n0)) ∧ (b < w'.heap.size ∧ w'.cell? ⟨b, o + 3, none⟩ = some (.int .i64 T1.kind) ∧ w'.cell? ⟨b, o + 4, none⟩ = some (.int .i64 T1.num) ∧ w'.cell? ⟨b, o + 5, none⟩ = some (.slice a1 T1.kids.length n1))) w' → (fun w' : World => Below w.heap.size w w' ∧ (w.heap.size < w'.heap.size ∧ w'.cell? ⟨w.heap.size, 0, none⟩ = some (.int .i64 13) ∧ w'.cell? ⟨w.heap.size, 1, none⟩ = some (.int .i64 n) ∧ w'.cell? ⟨w.heap.size, 2, none⟩ = some (.slice (some ⟨b, o, none⟩) 2 cap)) ∧ (b < w'.heap.size ∧ w'.cell? ⟨b, o, none⟩ = some (.int .i64 T0.kind) ∧ w'.cell? ⟨b, o + 1, none⟩ = some (.int .i64 T0.num) ∧ w'.cell? ⟨b, o + 2, none⟩ = some (.slice a0 T0.kids.length n0)) ∧ (b < w'.heap.size ∧ w'.cell? ⟨b, o + 3, none⟩ = some (.int .i64 T1.kind) ∧ w'.cell? ⟨b, o + 4, none⟩ = some (.int .i64 T1.num) ∧ w'.cell? ⟨b, o + 5, none⟩ = some (.slice a1 T1.kids.length n1))) w' := fun w' h => h
 refine AnyTwo.begin (fun w' : World => Below w.heap.size w w' ∧ (w.heap.size < w'.heap.size ∧ w'.cell? ⟨w.heap.size, 0, none⟩ = some (.int .i64 13) ∧ w'.cell? ⟨w.heap.size, 1, none⟩ = some (.int .i64 n) ∧ w'.cell? ⟨w.heap.size, 2, none⟩ = some (.slice (some ⟨b, o, none⟩) 2 cap)) ∧ (b < w'.heap.size ∧ w'.cell? ⟨b, o, none⟩ = some (.int .i64 T0.kind) ∧ w'.cell? ⟨b, o + 1, none⟩ = some (.int .i64 T0.num) ∧ w'.cell? ⟨b, o + 2, none⟩ = some (.slice a0 T0.kids.length n0)) ∧ (b < w'.heap.size ∧ w'.cell? ⟨b, o + 3, none⟩ = some (.int .i64 T1.kind) ∧ w'.cell? ⟨b, o + 4, none⟩ = some (.int .i64 T1.num) ∧ w'.cell? ⟨b, o + 5, none⟩ = some (.slice a1 T1.kids.length n1))) (fun w' : World => Below w.heap.size w w' ∧ (w.heap.size < w'.heap.size ∧ w'.cell? ⟨w.heap.size, 0, none⟩ = some (.int .i64 13) ∧ w'.cell? ⟨w.heap.size, 1, none⟩ = some (.int .i64 n) ∧ w'.cell? ⟨w.heap.size, 2, none⟩ = some (.slice (some ⟨b, o, none⟩) 2 cap)) ∧ (b < w'.heap.size ∧ w'.cell? ⟨b, o, none⟩ = some (.int .i64 T0.kind) ∧ w'.cell? ⟨b, o + 1, none⟩ = some (.int .i64 T0.num) ∧ w'.cell? ⟨b, o + 2, none⟩ = some (.slice a0 T0.kids.length n0)) ∧ (b < w'.heap.size ∧ w'.cell? ⟨b, o + 3, none⟩ = some (.int .i64 T1.kind) ∧ w'.cell? ⟨b, o + 4, none⟩ = some (.int .i64 T1.num) ∧ w'.cell? ⟨b, o + 5, none⟩ = some (.slice a1 T1.kids.length n1))) 14 (by kernel_rfl) ?_
 have hS1 : (fun w' : World => Below w.heap.size w w' ∧ (w.heap.size < w'.heap.size ∧ w'.cell? ⟨w.heap.size, 0, none⟩ = some (.int .i64 13) ∧ w'.cell? ⟨w.heap.size, 1, none⟩ = some (.int .i64 n) ∧ w'.cell? ⟨w.heap.size, 2, none⟩ = some (.slice (some ⟨b, o, none⟩) 2 cap)) ∧ (b < w'.heap.size ∧ w'.cell? ⟨b, o, none⟩ = some (.int .i64 T0.kind) ∧ w'.cell? ⟨b, o + 1, none⟩ = some (.int .i64 T0.num) ∧ w'.cell? ⟨b, o + 2, none⟩ = some (.slice a0 T0.kids.length n0)) ∧ (b < w'.heap.size ∧ w'.cell? ⟨b, o + 3, none⟩ = some (.int .i64 T1.kind) ∧ w'.cell? ⟨b, o + 4, none⟩ = some (.int .i64 T1.num) ∧ w'.cell? ⟨b, o + 5, none⟩ = some (.slice a1 T1.kids.length n1))) _ := ⟨HB.out.drew, row3_drew HV.out, row3_drew HX0.out, row3_drew HX1.out⟩
 refine AnyTwo.takeAny HT12 (i := 0) (oi := { dst := some 71, op := _, type := _, pos := _, after := _, guard := _ }) (v := ?vr1) rfl (by kernel_rfl) (by kernel_rfl) (by decide +kernel) (by rfl) (fun _ _ _ h => h) (Or.inl ⟨by rfl, ?yr1⟩) (ph_one (by kernel_rfl) hS1) ?rr1
 case yr1 => (intro w hSw; (try dsimp only at hSw); go_simp; try (with_reducible rfl))
 try simp only [Act.put, List.setIfInBounds_toArray, List.set_cons_zero, List.set_cons_succ]
 refine AnyTwo.takeAny HT12 (i := 1) (oi := { dst := some 72, op := _, type := _, pos := _, after := _, guard := _ }) (v := ?vr2) rfl (by kernel_rfl) (by kernel_rfl) (by decide +kernel) (by rfl) (fun _ _ _ h => h) (Or.inl ⟨by rfl, ?yr2⟩) (ph_one (by kernel_rfl) hS1) ?rr2
 case yr2 => (intro w hSw; (try dsimp only at hSw); go_simp; try (with_reducible rfl))
 try simp only [Act.put, List.setIfInBounds_toArray, List.set_cons_zero, List.set_cons_succ]
 refine AnyTwo.takeAny HT12 (i := 2) (oi := { dst := some 73, op := _, type := _, pos := _, after := _, guard := _ }) (v := ?vr3) rfl (by kernel_rfl) (by kernel_rfl) (by decide +kernel) (by rfl) (fun _ _ _ h => h) (Or.inl ⟨by rfl, ?yr3⟩) (ph_one (by kernel_rfl) hS1) ?rr3
 case yr3 => (intro w hSw; (try dsimp only at hSw); go_simp; try (with_reducible rfl))
 try simp only [Act.put, List.setIfInBounds_toArray, List.set_cons_zero, List.set_cons_succ]
 refine AnyTwo.takeAny HT12 (i := 3) (oi := { dst := some 74, op := _, type := _, pos := _, after := _, guard := _ }) (v := ?vr4) rfl (by kernel_rfl) (by kernel_rfl) (by decide +kernel) (by rfl) (fun _ _ _ h => h) (Or.inl ⟨by rfl, ?yr4⟩) (ph_one (by kernel_rfl) hS1) ?rr4
 case yr4 => (intro w hSw; (try dsimp only at hSw); go_simp; try (with_reducible rfl))
 try simp only [Act.put, List.setIfInBounds_toArray, List.set_cons_zero, List.set_cons_succ]
 refine AnyTwo.takeAny HT12 (i := 7) (oi := { dst := some 78, op := _, type := _, pos := _, after := _, guard := _ }) (v := ?vr5) rfl (by kernel_rfl) (by kernel_rfl) (by decide +kernel) (by rfl) (fun _ _ _ h => h) (Or.inl ⟨by rfl, ?yr5⟩) (ph_one (by kernel_rfl) hS1) ?rr5
 case yr5 => (intro w hSw; (try dsimp only at hSw); go_simp; try (with_reducible rfl))
 try simp only [Act.put, List.setIfInBounds_toArray, List.set_cons_zero, List.set_cons_succ]
 refine AnyTwo.takeAny HT12 (i := 8) (oi := { dst := some 79, op := _, type := _, pos := _, after := _, guard := _ }) (v := ?vr6) rfl (by kernel_rfl) (by kernel_rfl) (by decide +kernel) (by rfl) (fun _ _ _ h => h) (Or.inl ⟨by rfl, ?yr6⟩) (ph_one (by kernel_rfl) hS1) ?rr6
 case yr6 => (intro w hSw; (try dsimp only at hSw); go_simp; try (with_reducible rfl))
 try simp only [Act.put, List.setIfInBounds_toArray, List.set_cons_zero, List.set_cons_succ]
 refine AnyTwo.takeAny HT12 (i := 9) (oi := { dst := some 80, op := _, type := _, pos := _, after := _, guard := _ }) (v := ?vr7) rfl (by kernel_rfl) (by kernel_rfl) (by decide +kernel) (by rfl) (fun _ _ _ h => h) (Or.inl ⟨by rfl, ?yr7⟩) (ph_one (by kernel_rfl) hS1) ?rr7
 case yr7 => (intro w hSw; (try dsimp only at hSw); go_simp; try (with_reducible rfl))
 try simp only [Act.put, List.setIfInBounds_toArray, List.set_cons_zero, List.set_cons_succ]
 refine AnyTwo.takeAny HT12 (i := 10) (oi := { dst := some 81, op := _, type := _, pos := _, after := _, guard := _ }) (v := ?vr8) rfl (by kernel_rfl) (by kernel_rfl) (by decide +kernel) (by rfl) (fun _ _ _ h => h) (Or.inl ⟨by rfl, ?yr8⟩) (ph_one (by kernel_rfl) hS1) ?rr8
 case yr8 => (intro w hSw; (try dsimp only at hSw); go_simp; try (with_reducible rfl))
 try simp only [Act.put, List.setIfInBounds_toArray, List.set_cons_zero, List.set_cons_succ]
 refine AnyTwo.step (i := 4) (o := { dst := some 75, op := _, type := _, pos := _, after := _, guard := _ }) (by kernel_rfl) rfl (fun K hK => ?_)
 go_simp
 refine (HK0.out _ _ (HS0.out.below hS1.1)).mono ?_
 rintro e w7 ⟨rfl, hb7⟩
 have hS1' : (fun w' : World => Below w.heap.size w w' ∧ (w.heap.size < w'.heap.size ∧ w'.cell? ⟨w.heap.size, 0, none⟩ = some (.int .i64 13) ∧ w'.cell? ⟨w.heap.size, 1, none⟩ = some (.int .i64 n) ∧ w'.cell? ⟨w.heap.size, 2, none⟩ = some (.slice (some ⟨b, o, none⟩) 2 cap)) ∧ (b < w'.heap.size ∧ w'.cell? ⟨b, o, none⟩ = some (.int .i64 T0.kind) ∧ w'.cell? ⟨b, o + 1, none⟩ = some (.int .i64 T0.num) ∧ w'.cell? ⟨b, o + 2, none⟩ = some (.slice a0 T0.kids.length n0)) ∧ (b < w'.heap.size ∧ w'.cell? ⟨b, o + 3, none⟩ = some (.int .i64 T1.kind) ∧ w'.cell? ⟨b, o + 4, none⟩ = some (.int .i64 T1.num) ∧ w'.cell? ⟨b, o + 5, none⟩ = some (.slice a1 T1.kids.length n1))) _ := ⟨bAfter hS1.1 hb7, row3_below hS1.2.1 hb7, row3_below hS1.2.2.1 hb7, row3_below hS1.2.2.2 hb7⟩
 refine hK.out _ _ (ph_one (by kernel_rfl) hS1') ?_
 clear hK K hS1
 have hS1 := hS1'
 clear hS1'
 try simp only [Act.put, List.setIfInBounds_toArray, List.set_cons_zero, List.set_cons_succ]
 refine AnyTwo.takeAny HT12 (i := 5) (oi := { dst := some 76, op := _, type := _, pos := _, after := _, guard := _ }) (v := ?vr9) rfl (by kernel_rfl) (by kernel_rfl) (by decide +kernel) (by rfl) (fun _ _ _ h => h) (Or.inl ⟨by rfl, ?yr9⟩) (ph_one (by kernel_rfl) hS1) ?rr9
 case yr9 => (intro w hSw; (try dsimp only at hSw); go_simp; try (with_reducible rfl))
 try simp only [Act.put, List.setIfInBounds_toArray, List.set_cons_zero, List.set_cons_succ]
 refine AnyTwo.takeAny HT12 (i := 6) (oi := { dst := some 77, op := _, type := _, pos := _, after := _, guard := _ }) (v := ?vr10) rfl (by kernel_rfl) (by kernel_rfl) (by decide +kernel) (by rfl) (fun _ _ _ h => h) (Or.inl ⟨by rfl, ?yr10⟩) (ph_one (by kernel_rfl) hS1) ?rr10
 case yr10 => (intro w hSw; (try dsimp only at hSw); go_simp; try (with_reducible rfl))
 try simp only [Act.put, List.setIfInBounds_toArray, List.set_cons_zero, List.set_cons_succ]
 refine AnyTwo.step (i := 11) (o := { dst := some 82, op := _, type := _, pos := _, after := _, guard := _ }) (by kernel_rfl) rfl (fun K hK => ?_)
 go_simp
 refine (HK1.out _ _ (HS1.out.below hS1.1)).mono ?_
 rintro e w7 ⟨rfl, hb7⟩
 have hS1' : (fun w' : World => Below w.heap.size w w' ∧ (w.heap.size < w'.heap.size ∧ w'.cell? ⟨w.heap.size, 0, none⟩ = some (.int .i64 13) ∧ w'.cell? ⟨w.heap.size, 1, none⟩ = some (.int .i64 n) ∧ w'.cell? ⟨w.heap.size, 2, none⟩ = some (.slice (some ⟨b, o, none⟩) 2 cap)) ∧ (b < w'.heap.size ∧ w'.cell? ⟨b, o, none⟩ = some (.int .i64 T0.kind) ∧ w'.cell? ⟨b, o + 1, none⟩ = some (.int .i64 T0.num) ∧ w'.cell? ⟨b, o + 2, none⟩ = some (.slice a0 T0.kids.length n0)) ∧ (b < w'.heap.size ∧ w'.cell? ⟨b, o + 3, none⟩ = some (.int .i64 T1.kind) ∧ w'.cell? ⟨b, o + 4, none⟩ = some (.int .i64 T1.num) ∧ w'.cell? ⟨b, o + 5, none⟩ = some (.slice a1 T1.kids.length n1))) _ := ⟨bAfter hS1.1 hb7, row3_below hS1.2.1 hb7, row3_below hS1.2.2.1 hb7, row3_below hS1.2.2.2 hb7⟩
 refine hK.out _ _ (ph_one (by kernel_rfl) hS1') ?_
 clear hK K hS1
 have hS1 := hS1'
 clear hS1'
 try simp only [Act.put, List.setIfInBounds_toArray, List.set_cons_zero, List.set_cons_succ]
 refine AnyTwo.takeAny HT12 (i := 12) (oi := { dst := some 83, op := _, type := _, pos := _, after := _, guard := _ }) (v := ?vr11) rfl (by kernel_rfl) (by kernel_rfl) (by decide +kernel) (by rfl) (fun _ _ _ h => h) (Or.inl ⟨by rfl, ?yr11⟩) (ph_one (by kernel_rfl) hS1) ?rr11
 case yr11 => (intro w hSw; (try dsimp only at hSw); go_simp; try (with_reducible rfl))
 try simp only [Act.put, List.setIfInBounds_toArray, List.set_cons_zero, List.set_cons_succ]
 refine AnyTwo.takeAny HT12 (i := 13) (oi := { dst := some 84, op := _, type := _, pos := _, after := _, guard := _ }) (v := ?vr12) rfl (by kernel_rfl) (by kernel_rfl) (by decide +kernel) (by rfl) (fun _ _ _ h => h) (Or.inl ⟨by rfl, ?yr12⟩) (ph_one (by kernel_rfl) hS1) ?rr12
 case yr12 => (intro w hSw; (try dsimp only at hSw); go_simp; try (with_reducible rfl))
 try simp only [Act.put, List.setIfInBounds_toArray, List.set_cons_zero, List.set_cons_succ]
 refine AnyTwo.step (i := 14) (o := { dst := some 2, op := _, type := _, pos := _, after := _, guard := _ }) (by kernel_rfl) rfl (fun K hK => ?_)
 go_simp
 refine hK.out _ _ (ph_end (by kernel_rfl) hS1) ?_
 clear hK K
 try simp only [Act.put, List.setIfInBounds_toArray, List.set_cons_zero, List.set_cons_succ]
 refine AnyTwo.done (by kernel_rfl) ?_ _
 clear HT12
 have HB2 := tuck hS1.1
 clear hS1
 go_wp2_with fail
 exact HP.out _ _ (by rw [HE.out]) HB2.out
set_option maxRecDepth 100000 in
set_option maxHeartbeats 1600000 in
theorem text5_any (n : Int) (l : List Tm) (hok : (Tm.mk 5 n l).allOk) (hsz : sizes l ≤ 1000000)
  (hrec : ∀ i (hi : i < l.length) (w' : World) (s : Value), SlIn w' 0 l[i].kids s → Calls Tryz.prog 143 #[.agg #[.int .i64 l[i].kind, .int .i64 l[i].num, s]] w' (StrPost w' l[i].txt))
  (w : World) (v : Value) (hs : SlIn w 0 l v) : Calls Tryz.prog 143 #[.agg #[.int .i64 5, .int .i64 n, v]] w (StrPost w (Tm.mk 5 n l).txt) := by
 have hlen : l.length = 2 := by
  rw [Tm.allOk] at hok
  have := hok.1.1
  rw [show arity 5 = 2 by decide] at this
  omega
 have HP : Hid (∀ s w', s = (Tm.mk 5 n l).txt → Below w.heap.size w w' → StrPost w (Tm.mk 5 n l).txt (.returned (.string s)) w') := tuck fun s w' h hb => by rw [h]; exact ⟨rfl, hb⟩
 generalize StrPost w (Tm.mk 5 n l).txt = post at *
 obtain ⟨a, cap, b, o, rfl, -, hp, hc⟩ := hs.open
 obtain ⟨rfl, -, hbw⟩ := hp (by intro e; rw [e] at hlen; simp at hlen)
 obtain ⟨s0, c00, c01, c02, hs0⟩ := hc 0 (by omega)
 have HK0 := tuck (fun w' s => hrec 0 (by omega) w' s)
 have ht0 : l[0].txt.size ≤ 8000100 := by
  have h1 := l[0].txt_size
  have h2 := size_get_le l 0 (by omega)
  omega
 have hx0 := kidS_txt l 0 (by omega)
 generalize l[0] = T0 at *
 obtain ⟨a0, n0, rfl⟩ := hs0.form
 have HS0 := tuck hs0
 obtain ⟨X0, hX0⟩ : ∃ X, X = T0.txt := ⟨_, rfl⟩
 rw [← hX0] at HK0 ht0 hx0
 clear hX0 hs0
 have HROW0 : Hid (∀ w', Below w.heap.size w w' → b < w'.heap.size ∧ w'.cell? ⟨b, o, none⟩ = some (.int .i64 T0.kind) ∧ w'.cell? ⟨b, o + 1, none⟩ = some (.int .i64 T0.num) ∧ w'.cell? ⟨b, o + 2, none⟩ = some (.slice a0 T0.kids.length n0)) := tuck fun w' h =>
  ⟨Nat.lt_of_lt_of_le hbw h.size, (h.cell (p := ⟨b, o, none⟩) hbw).trans (by simpa using c00), (h.cell (p := ⟨b, o + 1, none⟩) hbw).trans (by simpa using c01), (h.cell (p := ⟨b, o + 2, none⟩) hbw).trans (by simpa using c02)⟩
 clear c00 c01 c02
 obtain ⟨s1, c10, c11, c12, hs1⟩ := hc 1 (by omega)
 have HK1 := tuck (fun w' s => hrec 1 (by omega) w' s)
 have ht1 : l[1].txt.size ≤ 8000100 := by
  have h1 := l[1].txt_size
  have h2 := size_get_le l 1 (by omega)
  omega
 have hx1 := kidS_txt l 1 (by omega)
 generalize l[1] = T1 at *
 obtain ⟨a1, n1, rfl⟩ := hs1.form
 have HS1 := tuck hs1
 obtain ⟨X1, hX1⟩ : ∃ X, X = T1.txt := ⟨_, rfl⟩
 rw [← hX1] at HK1 ht1 hx1
 clear hX1 hs1
 have HROW1 : Hid (∀ w', Below w.heap.size w w' → b < w'.heap.size ∧ w'.cell? ⟨b, o + 3, none⟩ = some (.int .i64 T1.kind) ∧ w'.cell? ⟨b, o + 4, none⟩ = some (.int .i64 T1.num) ∧ w'.cell? ⟨b, o + 5, none⟩ = some (.slice a1 T1.kids.length n1)) := tuck fun w' h =>
  ⟨Nat.lt_of_lt_of_le hbw h.size, (h.cell (p := ⟨b, o + 3, none⟩) hbw).trans (by simpa using c10), (h.cell (p := ⟨b, o + 4, none⟩) hbw).trans (by simpa using c11), (h.cell (p := ⟨b, o + 5, none⟩) hbw).trans (by simpa using c12)⟩
 clear c10 c11 c12
 have HE : Hid ((Tm.mk 5 n l).txt = (ByteArray.mk #[40]) ++ X0 ++ (ByteArray.mk #[32]) ++ X1 ++ (ByteArray.mk #[41])) := tuck (by rw [Tm.txt, ← hx0, ← hx1]; rfl)
 have z1 : ¬ (9223372036854775807 < 1 + X0.size) := by omega
 have z2 : ¬ (9223372036854775807 < 1 + X0.size + 1) := by omega
 have z3 : ¬ (9223372036854775807 < 1 + X0.size + 1 + X1.size) := by omega
 have z4 : ¬ (9223372036854775807 < 1 + X0.size + 1 + X1.size + 1) := by omega
 have HB := tuck (below1 w (.cells #[.int .i64 5, .int .i64 n, .slice (some ⟨b, o, none⟩) 2 cap] 34))
 have HV : Hid ((w.heap.size < (w.alloc (.cells #[.int .i64 5, .int .i64 n, .slice (some ⟨b, o, none⟩) 2 cap] 34)).heap.size ∧ (w.alloc (.cells #[.int .i64 5, .int .i64 n, .slice (some ⟨b, o, none⟩) 2 cap] 34)).cell? ⟨w.heap.size, 0, none⟩ = some (.int .i64 5) ∧ (w.alloc (.cells #[.int .i64 5, .int .i64 n, .slice (some ⟨b, o, none⟩) 2 cap] 34)).cell? ⟨w.heap.size, 1, none⟩ = some (.int .i64 n) ∧ (w.alloc (.cells #[.int .i64 5, .int .i64 n, .slice (some ⟨b, o, none⟩) 2 cap] 34)).cell? ⟨w.heap.size, 2, none⟩ = some (.slice (some ⟨b, o, none⟩) 2 cap))) := by
  obtain ⟨h1, h2, h3, h4, -⟩ := (VarAt.new w 5 n (.slice (some ⟨b, o, none⟩) 2 cap)).facts
  exact ⟨h1, h2, h3, h4⟩
 have HX0 := tuck (HROW0.out _ HB.out)
 have HX1 := tuck (HROW1.out _ HB.out)
 rw [hlen] at *
 clear hrec hok hsz hc hp hx0 ht0 HROW0 hx1 ht1 HROW1 hlen
 go_enter Tryz.func143, Tryz.ntmps143
 go_wp2_with fail
 generalize w.alloc (.cells #[.int .i64 5, .int .i64 n, .slice (some ⟨b, o, none⟩) 2 cap] 34) = W1 at *
 have HT12 : ∀ w' : World, (fun w' : World => Below w.heap.size w w' ∧ (w.heap.size < w'.heap.size ∧ w'.cell? ⟨w.heap.size, 0, none⟩ = some (.int .i64 5) ∧ w'.cell? ⟨w.heap.size, 1, none⟩ = some (.int .i64 n) ∧ w'.cell? ⟨w.heap.size, 2, none⟩ = some (.slice (some ⟨b, o, none⟩) 2 cap)) ∧ (b < w'.heap.size ∧ w'.cell? ⟨b, o, none⟩ = some (.int .i64 T0.kind) ∧ w'.cell? ⟨b, o + 1, none⟩ = some (.int .i64 T0.num) ∧ w'.cell? ⟨b, o + 2, none⟩ = some (.slice a0 T0.kids.length n0)) ∧ (b < w'.heap.size ∧ w'.cell? ⟨b, o + 3, none⟩ = some (.int .i64 T1.kind) ∧ w'.cell? ⟨b, o + 4, none⟩ = some (.int .i64 T1.num) ∧ w'.cell? ⟨b, o + 5, none⟩ = some (.slice a1 T1.kids.length n1))) w' → (fun w' : World => Below w.heap.size w w' ∧ (w.heap.size < w'.heap.size ∧ w'.cell? ⟨w.heap.size, 0, none⟩ = some (.int .i64 5) ∧ w'.cell? ⟨w.heap.size, 1, none⟩ = some (.int .i64 n) ∧ w'.cell? ⟨w.heap.size, 2, none⟩ = some (.slice (some ⟨b, o, none⟩) 2 cap)) ∧ (b < w'.heap.size ∧ w'.cell? ⟨b, o, none⟩ = some (.int .i64 T0.kind) ∧ w'.cell? ⟨b, o + 1, none⟩ = some (.int .i64 T0.num) ∧ w'.cell? ⟨b, o + 2, none⟩ = some (.slice a0 T0.kids.length n0)) ∧ (b < w'.heap.size ∧ w'.cell? ⟨b, o + 3, none⟩ = some (.int .i64 T1.kind) ∧ w'.cell? ⟨b, o + 4, none⟩ = some (.int .i64 T1.num) ∧ w'.cell? ⟨b, o + 5, none⟩ = some (.slice a1 T1.kids.length n1))) w' := fun w' h => h
 refine AnyTwo.begin (fun w' : World => Below w.heap.size w w' ∧ (w.heap.size < w'.heap.size ∧ w'.cell? ⟨w.heap.size, 0, none⟩ = some (.int .i64 5) ∧ w'.cell? ⟨w.heap.size, 1, none⟩ = some (.int .i64 n) ∧ w'.cell? ⟨w.heap.size, 2, none⟩ = some (.slice (some ⟨b, o, none⟩) 2 cap)) ∧ (b < w'.heap.size ∧ w'.cell? ⟨b, o, none⟩ = some (.int .i64 T0.kind) ∧ w'.cell? ⟨b, o + 1, none⟩ = some (.int .i64 T0.num) ∧ w'.cell? ⟨b, o + 2, none⟩ = some (.slice a0 T0.kids.length n0)) ∧ (b < w'.heap.size ∧ w'.cell? ⟨b, o + 3, none⟩ = some (.int .i64 T1.kind) ∧ w'.cell? ⟨b, o + 4, none⟩ = some (.int .i64 T1.num) ∧ w'.cell? ⟨b, o + 5, none⟩ = some (.slice a1 T1.kids.length n1))) (fun w' : World => Below w.heap.size w w' ∧ (w.heap.size < w'.heap.size ∧ w'.cell? ⟨w.heap.size, 0, none⟩ = some (.int .i64 5) ∧ w'.cell? ⟨w.heap.size, 1, none⟩ = some (.int .i64 n) ∧ w'.cell? ⟨w.heap.size, 2, none⟩ = some (.slice (some ⟨b, o, none⟩) 2 cap)) ∧ (b < w'.heap.size ∧ w'.cell? ⟨b, o, none⟩ = some (.int .i64 T0.kind) ∧ w'.cell? ⟨b, o + 1, none⟩ = some (.int .i64 T0.num) ∧ w'.cell? ⟨b, o + 2, none⟩ = some (.slice a0 T0.kids.length n0)) ∧ (b < w'.heap.size ∧ w'.cell? ⟨b, o + 3, none⟩ = some (.int .i64 T1.kind) ∧ w'.cell? ⟨b, o + 4, none⟩ = some (.int .i64 T1.num) ∧ w'.cell? ⟨b, o + 5, none⟩ = some (.slice a1 T1.kids.length n1))) 14 (by kernel_rfl) ?_
 have hS1 : (fun w' : World => Below w.heap.size w w' ∧ (w.heap.size < w'.heap.size ∧ w'.cell? ⟨w.heap.size, 0, none⟩ = some (.int .i64 5) ∧ w'.cell? ⟨w.heap.size, 1, none⟩ = some (.int .i64 n) ∧ w'.cell? ⟨w.heap.size, 2, none⟩ = some (.slice (some ⟨b, o, none⟩) 2 cap)) ∧ (b < w'.heap.size ∧ w'.cell? ⟨b, o, none⟩ = some (.int .i64 T0.kind) ∧ w'.cell? ⟨b, o + 1, none⟩ = some (.int .i64 T0.num) ∧ w'.cell? ⟨b, o + 2, none⟩ = some (.slice a0 T0.kids.length n0)) ∧ (b < w'.heap.size ∧ w'.cell? ⟨b, o + 3, none⟩ = some (.int .i64 T1.kind) ∧ w'.cell? ⟨b, o + 4, none⟩ = some (.int .i64 T1.num) ∧ w'.cell? ⟨b, o + 5, none⟩ = some (.slice a1 T1.kids.length n1))) _ := ⟨HB.out.drew, row3_drew HV.out, row3_drew HX0.out, row3_drew HX1.out⟩
 refine AnyTwo.takeAny HT12 (i := 0) (oi := { dst := some 87, op := _, type := _, pos := _, after := _, guard := _ }) (v := ?vr1) rfl (by kernel_rfl) (by kernel_rfl) (by decide +kernel) (by rfl) (fun _ _ _ h => h) (Or.inl ⟨by rfl, ?yr1⟩) (ph_one (by kernel_rfl) hS1) ?rr1
 case yr1 => (intro w hSw; (try dsimp only at hSw); go_simp; try (with_reducible rfl))
 try simp only [Act.put, List.setIfInBounds_toArray, List.set_cons_zero, List.set_cons_succ]
 refine AnyTwo.takeAny HT12 (i := 1) (oi := { dst := some 88, op := _, type := _, pos := _, after := _, guard := _ }) (v := ?vr2) rfl (by kernel_rfl) (by kernel_rfl) (by decide +kernel) (by rfl) (fun _ _ _ h => h) (Or.inl ⟨by rfl, ?yr2⟩) (ph_one (by kernel_rfl) hS1) ?rr2
 case yr2 => (intro w hSw; (try dsimp only at hSw); go_simp; try (with_reducible rfl))
 try simp only [Act.put, List.setIfInBounds_toArray, List.set_cons_zero, List.set_cons_succ]
 refine AnyTwo.takeAny HT12 (i := 2) (oi := { dst := some 89, op := _, type := _, pos := _, after := _, guard := _ }) (v := ?vr3) rfl (by kernel_rfl) (by kernel_rfl) (by decide +kernel) (by rfl) (fun _ _ _ h => h) (Or.inl ⟨by rfl, ?yr3⟩) (ph_one (by kernel_rfl) hS1) ?rr3
 case yr3 => (intro w hSw; (try dsimp only at hSw); go_simp; try (with_reducible rfl))
 try simp only [Act.put, List.setIfInBounds_toArray, List.set_cons_zero, List.set_cons_succ]
 refine AnyTwo.takeAny HT12 (i := 3) (oi := { dst := some 90, op := _, type := _, pos := _, after := _, guard := _ }) (v := ?vr4) rfl (by kernel_rfl) (by kernel_rfl) (by decide +kernel) (by rfl) (fun _ _ _ h => h) (Or.inl ⟨by rfl, ?yr4⟩) (ph_one (by kernel_rfl) hS1) ?rr4
 case yr4 => (intro w hSw; (try dsimp only at hSw); go_simp; try (with_reducible rfl))
 try simp only [Act.put, List.setIfInBounds_toArray, List.set_cons_zero, List.set_cons_succ]
 refine AnyTwo.takeAny HT12 (i := 7) (oi := { dst := some 94, op := _, type := _, pos := _, after := _, guard := _ }) (v := ?vr5) rfl (by kernel_rfl) (by kernel_rfl) (by decide +kernel) (by rfl) (fun _ _ _ h => h) (Or.inl ⟨by rfl, ?yr5⟩) (ph_one (by kernel_rfl) hS1) ?rr5
 case yr5 => (intro w hSw; (try dsimp only at hSw); go_simp; try (with_reducible rfl))
 try simp only [Act.put, List.setIfInBounds_toArray, List.set_cons_zero, List.set_cons_succ]
 refine AnyTwo.takeAny HT12 (i := 8) (oi := { dst := some 95, op := _, type := _, pos := _, after := _, guard := _ }) (v := ?vr6) rfl (by kernel_rfl) (by kernel_rfl) (by decide +kernel) (by rfl) (fun _ _ _ h => h) (Or.inl ⟨by rfl, ?yr6⟩) (ph_one (by kernel_rfl) hS1) ?rr6
 case yr6 => (intro w hSw; (try dsimp only at hSw); go_simp; try (with_reducible rfl))
 try simp only [Act.put, List.setIfInBounds_toArray, List.set_cons_zero, List.set_cons_succ]
 refine AnyTwo.takeAny HT12 (i := 9) (oi := { dst := some 96, op := _, type := _, pos := _, after := _, guard := _ }) (v := ?vr7) rfl (by kernel_rfl) (by kernel_rfl) (by decide +kernel) (by rfl) (fun _ _ _ h => h) (Or.inl ⟨by rfl, ?yr7⟩) (ph_one (by kernel_rfl) hS1) ?rr7
 case yr7 => (intro w hSw; (try dsimp only at hSw); go_simp; try (with_reducible rfl))
 try simp only [Act.put, List.setIfInBounds_toArray, List.set_cons_zero, List.set_cons_succ]
 refine AnyTwo.takeAny HT12 (i := 10) (oi := { dst := some 97, op := _, type := _, pos := _, after := _, guard := _ }) (v := ?vr8) rfl (by kernel_rfl) (by kernel_rfl) (by decide +kernel) (by rfl) (fun _ _ _ h => h) (Or.inl ⟨by rfl, ?yr8⟩) (ph_one (by kernel_rfl) hS1) ?rr8
 case yr8 => (intro w hSw; (try dsimp only at hSw); go_simp; try (with_reducible rfl))
 try simp only [Act.put, List.setIfInBounds_toArray, List.set_cons_zero, List.set_cons_succ]
 refine AnyTwo.step (i := 4) (o := { dst := some 91, op := _, type := _, pos := _, after := _, guard := _ }) (by kernel_rfl) rfl (fun K hK => ?_)
 go_simp
 refine (HK0.out _ _ (HS0.out.below hS1.1)).mono ?_
 rintro e w7 ⟨rfl, hb7⟩
 have hS1' : (fun w' : World => Below w.heap.size w w' ∧ (w.heap.size < w'.heap.size ∧ w'.cell? ⟨w.heap.size, 0, none⟩ = some (.int .i64 5) ∧ w'.cell? ⟨w.heap.size, 1, none⟩ = some (.int .i64 n) ∧ w'.cell? ⟨w.heap.size, 2, none⟩ = some (.slice (some ⟨b, o, none⟩) 2 cap)) ∧ (b < w'.heap.size ∧ w'.cell? ⟨b, o, none⟩ = some (.int .i64 T0.kind) ∧ w'.cell? ⟨b, o + 1, none⟩ = some (.int .i64 T0.num) ∧ w'.cell? ⟨b, o + 2, none⟩ = some (.slice a0 T0.kids.length n0)) ∧ (b < w'.heap.size ∧ w'.cell? ⟨b, o + 3, none⟩ = some (.int .i64 T1.kind) ∧ w'.cell? ⟨b, o + 4, none⟩ = some (.int .i64 T1.num) ∧ w'.cell? ⟨b, o + 5, none⟩ = some (.slice a1 T1.kids.length n1))) _ := ⟨bAfter hS1.1 hb7, row3_below hS1.2.1 hb7, row3_below hS1.2.2.1 hb7, row3_below hS1.2.2.2 hb7⟩
 refine hK.out _ _ (ph_one (by kernel_rfl) hS1') ?_
 clear hK K hS1
 have hS1 := hS1'
 clear hS1'
 try simp only [Act.put, List.setIfInBounds_toArray, List.set_cons_zero, List.set_cons_succ]
 refine AnyTwo.takeAny HT12 (i := 5) (oi := { dst := some 92, op := _, type := _, pos := _, after := _, guard := _ }) (v := ?vr9) rfl (by kernel_rfl) (by kernel_rfl) (by decide +kernel) (by rfl) (fun _ _ _ h => h) (Or.inl ⟨by rfl, ?yr9⟩) (ph_one (by kernel_rfl) hS1) ?rr9
 case yr9 => (intro w hSw; (try dsimp only at hSw); go_simp; try (with_reducible rfl))
 try simp only [Act.put, List.setIfInBounds_toArray, List.set_cons_zero, List.set_cons_succ]
 refine AnyTwo.takeAny HT12 (i := 6) (oi := { dst := some 93, op := _, type := _, pos := _, after := _, guard := _ }) (v := ?vr10) rfl (by kernel_rfl) (by kernel_rfl) (by decide +kernel) (by rfl) (fun _ _ _ h => h) (Or.inl ⟨by rfl, ?yr10⟩) (ph_one (by kernel_rfl) hS1) ?rr10
 case yr10 => (intro w hSw; (try dsimp only at hSw); go_simp; try (with_reducible rfl))
 try simp only [Act.put, List.setIfInBounds_toArray, List.set_cons_zero, List.set_cons_succ]
 refine AnyTwo.step (i := 11) (o := { dst := some 98, op := _, type := _, pos := _, after := _, guard := _ }) (by kernel_rfl) rfl (fun K hK => ?_)
 go_simp
 refine (HK1.out _ _ (HS1.out.below hS1.1)).mono ?_
 rintro e w7 ⟨rfl, hb7⟩
 have hS1' : (fun w' : World => Below w.heap.size w w' ∧ (w.heap.size < w'.heap.size ∧ w'.cell? ⟨w.heap.size, 0, none⟩ = some (.int .i64 5) ∧ w'.cell? ⟨w.heap.size, 1, none⟩ = some (.int .i64 n) ∧ w'.cell? ⟨w.heap.size, 2, none⟩ = some (.slice (some ⟨b, o, none⟩) 2 cap)) ∧ (b < w'.heap.size ∧ w'.cell? ⟨b, o, none⟩ = some (.int .i64 T0.kind) ∧ w'.cell? ⟨b, o + 1, none⟩ = some (.int .i64 T0.num) ∧ w'.cell? ⟨b, o + 2, none⟩ = some (.slice a0 T0.kids.length n0)) ∧ (b < w'.heap.size ∧ w'.cell? ⟨b, o + 3, none⟩ = some (.int .i64 T1.kind) ∧ w'.cell? ⟨b, o + 4, none⟩ = some (.int .i64 T1.num) ∧ w'.cell? ⟨b, o + 5, none⟩ = some (.slice a1 T1.kids.length n1))) _ := ⟨bAfter hS1.1 hb7, row3_below hS1.2.1 hb7, row3_below hS1.2.2.1 hb7, row3_below hS1.2.2.2 hb7⟩
 refine hK.out _ _ (ph_one (by kernel_rfl) hS1') ?_
 clear hK K hS1
 have hS1 := hS1'
 clear hS1'
 try simp only [Act.put, List.setIfInBounds_toArray, List.set_cons_zero, List.set_cons_succ]
 refine AnyTwo.takeAny HT12 (i := 12) (oi := { dst := some 99, op := _, type := _, pos := _, after := _, guard := _ }) (v := ?vr11) rfl (by kernel_rfl) (by kernel_rfl) (by decide +kernel) (by rfl) (fun _ _ _ h => h) (Or.inl ⟨by rfl, ?yr11⟩) (ph_one (by kernel_rfl) hS1) ?rr11
 case yr11 => (intro w hSw; (try dsimp only at hSw); go_simp; try (with_reducible rfl))
 try simp only [Act.put, List.setIfInBounds_toArray, List.set_cons_zero, List.set_cons_succ]
 refine AnyTwo.takeAny HT12 (i := 13) (oi := { dst := some 100, op := _, type := _, pos := _, after := _, guard := _ }) (v := ?vr12) rfl (by kernel_rfl) (by kernel_rfl) (by decide +kernel) (by rfl) (fun _ _ _ h => h) (Or.inl ⟨by rfl, ?yr12⟩) (ph_one (by kernel_rfl) hS1) ?rr12
 case yr12 => (intro w hSw; (try dsimp only at hSw); go_simp; try (with_reducible rfl))
 try simp only [Act.put, List.setIfInBounds_toArray, List.set_cons_zero, List.set_cons_succ]
 refine AnyTwo.step (i := 14) (o := { dst := some 2, op := _, type := _, pos := _, after := _, guard := _ }) (by kernel_rfl) rfl (fun K hK => ?_)
 go_simp
 refine hK.out _ _ (ph_end (by kernel_rfl) hS1) ?_
 clear hK K
 try simp only [Act.put, List.setIfInBounds_toArray, List.set_cons_zero, List.set_cons_succ]
 refine AnyTwo.done (by kernel_rfl) ?_ _
 clear HT12
 have HB2 := tuck hS1.1
 clear hS1
 go_wp2_with fail
 exact HP.out _ _ (by rw [HE.out]) HB2.out
set_option maxRecDepth 100000 in
set_option maxHeartbeats 1600000 in
theorem text4_any (n : Int) (l : List Tm) (hok : (Tm.mk 4 n l).allOk) (hsz : sizes l ≤ 1000000)
  (hrec : ∀ i (hi : i < l.length) (w' : World) (s : Value), SlIn w' 0 l[i].kids s → Calls Tryz.prog 143 #[.agg #[.int .i64 l[i].kind, .int .i64 l[i].num, s]] w' (StrPost w' l[i].txt))
  (w : World) (v : Value) (hs : SlIn w 0 l v) : Calls Tryz.prog 143 #[.agg #[.int .i64 4, .int .i64 n, v]] w (StrPost w (Tm.mk 4 n l).txt) := by
 have hlen : l.length = 2 := by
  rw [Tm.allOk] at hok
  have := hok.1.1
  rw [show arity 4 = 2 by decide] at this
  omega
 have HP : Hid (∀ s w', s = (Tm.mk 4 n l).txt → Below w.heap.size w w' → StrPost w (Tm.mk 4 n l).txt (.returned (.string s)) w') := tuck fun s w' h hb => by rw [h]; exact ⟨rfl, hb⟩
 generalize StrPost w (Tm.mk 4 n l).txt = post at *
 obtain ⟨a, cap, b, o, rfl, -, hp, hc⟩ := hs.open
 obtain ⟨rfl, -, hbw⟩ := hp (by intro e; rw [e] at hlen; simp at hlen)
 obtain ⟨s0, c00, c01, c02, hs0⟩ := hc 0 (by omega)
 have HK0 := tuck (fun w' s => hrec 0 (by omega) w' s)
 have ht0 : l[0].txt.size ≤ 8000100 := by
  have h1 := l[0].txt_size
  have h2 := size_get_le l 0 (by omega)
  omega
 have hx0 := kidS_txt l 0 (by omega)
 generalize l[0] = T0 at *
 obtain ⟨a0, n0, rfl⟩ := hs0.form
 have HS0 := tuck hs0
 obtain ⟨X0, hX0⟩ : ∃ X, X = T0.txt := ⟨_, rfl⟩
 rw [← hX0] at HK0 ht0 hx0
 clear hX0 hs0
 have HROW0 : Hid (∀ w', Below w.heap.size w w' → b < w'.heap.size ∧ w'.cell? ⟨b, o, none⟩ = some (.int .i64 T0.kind) ∧ w'.cell? ⟨b, o + 1, none⟩ = some (.int .i64 T0.num) ∧ w'.cell? ⟨b, o + 2, none⟩ = some (.slice a0 T0.kids.length n0)) := tuck fun w' h =>
  ⟨Nat.lt_of_lt_of_le hbw h.size, (h.cell (p := ⟨b, o, none⟩) hbw).trans (by simpa using c00), (h.cell (p := ⟨b, o + 1, none⟩) hbw).trans (by simpa using c01), (h.cell (p := ⟨b, o + 2, none⟩) hbw).trans (by simpa using c02)⟩
 clear c00 c01 c02
 obtain ⟨s1, c10, c11, c12, hs1⟩ := hc 1 (by omega)
 have HK1 := tuck (fun w' s => hrec 1 (by omega) w' s)
 have ht1 : l[1].txt.size ≤ 8000100 := by
  have h1 := l[1].txt_size
  have h2 := size_get_le l 1 (by omega)
  omega
 have hx1 := kidS_txt l 1 (by omega)
 generalize l[1] = T1 at *
 obtain ⟨a1, n1, rfl⟩ := hs1.form
 have HS1 := tuck hs1
 obtain ⟨X1, hX1⟩ : ∃ X, X = T1.txt := ⟨_, rfl⟩
 rw [← hX1] at HK1 ht1 hx1
 clear hX1 hs1
 have HROW1 : Hid (∀ w', Below w.heap.size w w' → b < w'.heap.size ∧ w'.cell? ⟨b, o + 3, none⟩ = some (.int .i64 T1.kind) ∧ w'.cell? ⟨b, o + 4, none⟩ = some (.int .i64 T1.num) ∧ w'.cell? ⟨b, o + 5, none⟩ = some (.slice a1 T1.kids.length n1)) := tuck fun w' h =>
  ⟨Nat.lt_of_lt_of_le hbw h.size, (h.cell (p := ⟨b, o + 3, none⟩) hbw).trans (by simpa using c10), (h.cell (p := ⟨b, o + 4, none⟩) hbw).trans (by simpa using c11), (h.cell (p := ⟨b, o + 5, none⟩) hbw).trans (by simpa using c12)⟩
 clear c10 c11 c12
 have HE : Hid ((Tm.mk 4 n l).txt = (ByteArray.mk #[91]) ++ X0 ++ (ByteArray.mk #[93]) ++ X1) := tuck (by rw [Tm.txt, ← hx0, ← hx1]; rfl)
 have z1 : ¬ (9223372036854775807 < 1 + X0.size) := by omega
 have z2 : ¬ (9223372036854775807 < 1 + X0.size + 1) := by omega
 have z3 : ¬ (9223372036854775807 < 1 + X0.size + 1 + X1.size) := by omega
 have z4 : ¬ (9223372036854775807 < 1 + X0.size + 1 + X1.size + 1) := by omega
 have HB := tuck (below1 w (.cells #[.int .i64 4, .int .i64 n, .slice (some ⟨b, o, none⟩) 2 cap] 34))
 have HV : Hid ((w.heap.size < (w.alloc (.cells #[.int .i64 4, .int .i64 n, .slice (some ⟨b, o, none⟩) 2 cap] 34)).heap.size ∧ (w.alloc (.cells #[.int .i64 4, .int .i64 n, .slice (some ⟨b, o, none⟩) 2 cap] 34)).cell? ⟨w.heap.size, 0, none⟩ = some (.int .i64 4) ∧ (w.alloc (.cells #[.int .i64 4, .int .i64 n, .slice (some ⟨b, o, none⟩) 2 cap] 34)).cell? ⟨w.heap.size, 1, none⟩ = some (.int .i64 n) ∧ (w.alloc (.cells #[.int .i64 4, .int .i64 n, .slice (some ⟨b, o, none⟩) 2 cap] 34)).cell? ⟨w.heap.size, 2, none⟩ = some (.slice (some ⟨b, o, none⟩) 2 cap))) := by
  obtain ⟨h1, h2, h3, h4, -⟩ := (VarAt.new w 4 n (.slice (some ⟨b, o, none⟩) 2 cap)).facts
  exact ⟨h1, h2, h3, h4⟩
 have HX0 := tuck (HROW0.out _ HB.out)
 have HX1 := tuck (HROW1.out _ HB.out)
 rw [hlen] at *
 clear hrec hok hsz hc hp hx0 ht0 HROW0 hx1 ht1 HROW1 hlen
 go_enter Tryz.func143, Tryz.ntmps143
 go_wp2_with fail
 generalize w.alloc (.cells #[.int .i64 4, .int .i64 n, .slice (some ⟨b, o, none⟩) 2 cap] 34) = W1 at *
 have HT12 : ∀ w' : World, (fun w' : World => Below w.heap.size w w' ∧ (w.heap.size < w'.heap.size ∧ w'.cell? ⟨w.heap.size, 0, none⟩ = some (.int .i64 4) ∧ w'.cell? ⟨w.heap.size, 1, none⟩ = some (.int .i64 n) ∧ w'.cell? ⟨w.heap.size, 2, none⟩ = some (.slice (some ⟨b, o, none⟩) 2 cap)) ∧ (b < w'.heap.size ∧ w'.cell? ⟨b, o, none⟩ = some (.int .i64 T0.kind) ∧ w'.cell? ⟨b, o + 1, none⟩ = some (.int .i64 T0.num) ∧ w'.cell? ⟨b, o + 2, none⟩ = some (.slice a0 T0.kids.length n0)) ∧ (b < w'.heap.size ∧ w'.cell? ⟨b, o + 3, none⟩ = some (.int .i64 T1.kind) ∧ w'.cell? ⟨b, o + 4, none⟩ = some (.int .i64 T1.num) ∧ w'.cell? ⟨b, o + 5, none⟩ = some (.slice a1 T1.kids.length n1))) w' → (fun w' : World => Below w.heap.size w w' ∧ (w.heap.size < w'.heap.size ∧ w'.cell? ⟨w.heap.size, 0, none⟩ = some (.int .i64 4) ∧ w'.cell? ⟨w.heap.size, 1, none⟩ = some (.int .i64 n) ∧ w'.cell? ⟨w.heap.size, 2, none⟩ = some (.slice (some ⟨b, o, none⟩) 2 cap)) ∧ (b < w'.heap.size ∧ w'.cell? ⟨b, o, none⟩ = some (.int .i64 T0.kind) ∧ w'.cell? ⟨b, o + 1, none⟩ = some (.int .i64 T0.num) ∧ w'.cell? ⟨b, o + 2, none⟩ = some (.slice a0 T0.kids.length n0)) ∧ (b < w'.heap.size ∧ w'.cell? ⟨b, o + 3, none⟩ = some (.int .i64 T1.kind) ∧ w'.cell? ⟨b, o + 4, none⟩ = some (.int .i64 T1.num) ∧ w'.cell? ⟨b, o + 5, none⟩ = some (.slice a1 T1.kids.length n1))) w' := fun w' h => h
 refine AnyTwo.begin (fun w' : World => Below w.heap.size w w' ∧ (w.heap.size < w'.heap.size ∧ w'.cell? ⟨w.heap.size, 0, none⟩ = some (.int .i64 4) ∧ w'.cell? ⟨w.heap.size, 1, none⟩ = some (.int .i64 n) ∧ w'.cell? ⟨w.heap.size, 2, none⟩ = some (.slice (some ⟨b, o, none⟩) 2 cap)) ∧ (b < w'.heap.size ∧ w'.cell? ⟨b, o, none⟩ = some (.int .i64 T0.kind) ∧ w'.cell? ⟨b, o + 1, none⟩ = some (.int .i64 T0.num) ∧ w'.cell? ⟨b, o + 2, none⟩ = some (.slice a0 T0.kids.length n0)) ∧ (b < w'.heap.size ∧ w'.cell? ⟨b, o + 3, none⟩ = some (.int .i64 T1.kind) ∧ w'.cell? ⟨b, o + 4, none⟩ = some (.int .i64 T1.num) ∧ w'.cell? ⟨b, o + 5, none⟩ = some (.slice a1 T1.kids.length n1))) (fun w' : World => Below w.heap.size w w' ∧ (w.heap.size < w'.heap.size ∧ w'.cell? ⟨w.heap.size, 0, none⟩ = some (.int .i64 4) ∧ w'.cell? ⟨w.heap.size, 1, none⟩ = some (.int .i64 n) ∧ w'.cell? ⟨w.heap.size, 2, none⟩ = some (.slice (some ⟨b, o, none⟩) 2 cap)) ∧ (b < w'.heap.size ∧ w'.cell? ⟨b, o, none⟩ = some (.int .i64 T0.kind) ∧ w'.cell? ⟨b, o + 1, none⟩ = some (.int .i64 T0.num) ∧ w'.cell? ⟨b, o + 2, none⟩ = some (.slice a0 T0.kids.length n0)) ∧ (b < w'.heap.size ∧ w'.cell? ⟨b, o + 3, none⟩ = some (.int .i64 T1.kind) ∧ w'.cell? ⟨b, o + 4, none⟩ = some (.int .i64 T1.num) ∧ w'.cell? ⟨b, o + 5, none⟩ = some (.slice a1 T1.kids.length n1))) 13 (by kernel_rfl) ?_
 have hS1 : (fun w' : World => Below w.heap.size w w' ∧ (w.heap.size < w'.heap.size ∧ w'.cell? ⟨w.heap.size, 0, none⟩ = some (.int .i64 4) ∧ w'.cell? ⟨w.heap.size, 1, none⟩ = some (.int .i64 n) ∧ w'.cell? ⟨w.heap.size, 2, none⟩ = some (.slice (some ⟨b, o, none⟩) 2 cap)) ∧ (b < w'.heap.size ∧ w'.cell? ⟨b, o, none⟩ = some (.int .i64 T0.kind) ∧ w'.cell? ⟨b, o + 1, none⟩ = some (.int .i64 T0.num) ∧ w'.cell? ⟨b, o + 2, none⟩ = some (.slice a0 T0.kids.length n0)) ∧ (b < w'.heap.size ∧ w'.cell? ⟨b, o + 3, none⟩ = some (.int .i64 T1.kind) ∧ w'.cell? ⟨b, o + 4, none⟩ = some (.int .i64 T1.num) ∧ w'.cell? ⟨b, o + 5, none⟩ = some (.slice a1 T1.kids.length n1))) _ := ⟨HB.out.drew, row3_drew HV.out, row3_drew HX0.out, row3_drew HX1.out⟩
 refine AnyTwo.takeAny HT12 (i := 0) (oi := { dst := some 103, op := _, type := _, pos := _, after := _, guard := _ }) (v := ?vr1) rfl (by kernel_rfl) (by kernel_rfl) (by decide +kernel) (by rfl) (fun _ _ _ h => h) (Or.inl ⟨by rfl, ?yr1⟩) (ph_one (by kernel_rfl) hS1) ?rr1
 case yr1 => (intro w hSw; (try dsimp only at hSw); go_simp; try (with_reducible rfl))
 try simp only [Act.put, List.setIfInBounds_toArray, List.set_cons_zero, List.set_cons_succ]
 refine AnyTwo.takeAny HT12 (i := 1) (oi := { dst := some 104, op := _, type := _, pos := _, after := _, guard := _ }) (v := ?vr2) rfl (by kernel_rfl) (by kernel_rfl) (by decide +kernel) (by rfl) (fun _ _ _ h => h) (Or.inl ⟨by rfl, ?yr2⟩) (ph_one (by kernel_rfl) hS1) ?rr2
 case yr2 => (intro w hSw; (try dsimp only at hSw); go_simp; try (with_reducible rfl))
 try simp only [Act.put, List.setIfInBounds_toArray, List.set_cons_zero, List.set_cons_succ]
 refine AnyTwo.takeAny HT12 (i := 2) (oi := { dst := some 105, op := _, type := _, pos := _, after := _, guard := _ }) (v := ?vr3) rfl (by kernel_rfl) (by kernel_rfl) (by decide +kernel) (by rfl) (fun _ _ _ h => h) (Or.inl ⟨by rfl, ?yr3⟩) (ph_one (by kernel_rfl) hS1) ?rr3
 case yr3 => (intro w hSw; (try dsimp only at hSw); go_simp; try (with_reducible rfl))
 try simp only [Act.put, List.setIfInBounds_toArray, List.set_cons_zero, List.set_cons_succ]
 refine AnyTwo.takeAny HT12 (i := 3) (oi := { dst := some 106, op := _, type := _, pos := _, after := _, guard := _ }) (v := ?vr4) rfl (by kernel_rfl) (by kernel_rfl) (by decide +kernel) (by rfl) (fun _ _ _ h => h) (Or.inl ⟨by rfl, ?yr4⟩) (ph_one (by kernel_rfl) hS1) ?rr4
 case yr4 => (intro w hSw; (try dsimp only at hSw); go_simp; try (with_reducible rfl))
 try simp only [Act.put, List.setIfInBounds_toArray, List.set_cons_zero, List.set_cons_succ]
 refine AnyTwo.takeAny HT12 (i := 7) (oi := { dst := some 110, op := _, type := _, pos := _, after := _, guard := _ }) (v := ?vr5) rfl (by kernel_rfl) (by kernel_rfl) (by decide +kernel) (by rfl) (fun _ _ _ h => h) (Or.inl ⟨by rfl, ?yr5⟩) (ph_one (by kernel_rfl) hS1) ?rr5
 case yr5 => (intro w hSw; (try dsimp only at hSw); go_simp; try (with_reducible rfl))
 try simp only [Act.put, List.setIfInBounds_toArray, List.set_cons_zero, List.set_cons_succ]
 refine AnyTwo.takeAny HT12 (i := 8) (oi := { dst := some 111, op := _, type := _, pos := _, after := _, guard := _ }) (v := ?vr6) rfl (by kernel_rfl) (by kernel_rfl) (by decide +kernel) (by rfl) (fun _ _ _ h => h) (Or.inl ⟨by rfl, ?yr6⟩) (ph_one (by kernel_rfl) hS1) ?rr6
 case yr6 => (intro w hSw; (try dsimp only at hSw); go_simp; try (with_reducible rfl))
 try simp only [Act.put, List.setIfInBounds_toArray, List.set_cons_zero, List.set_cons_succ]
 refine AnyTwo.takeAny HT12 (i := 9) (oi := { dst := some 112, op := _, type := _, pos := _, after := _, guard := _ }) (v := ?vr7) rfl (by kernel_rfl) (by kernel_rfl) (by decide +kernel) (by rfl) (fun _ _ _ h => h) (Or.inl ⟨by rfl, ?yr7⟩) (ph_one (by kernel_rfl) hS1) ?rr7
 case yr7 => (intro w hSw; (try dsimp only at hSw); go_simp; try (with_reducible rfl))
 try simp only [Act.put, List.setIfInBounds_toArray, List.set_cons_zero, List.set_cons_succ]
 refine AnyTwo.takeAny HT12 (i := 10) (oi := { dst := some 113, op := _, type := _, pos := _, after := _, guard := _ }) (v := ?vr8) rfl (by kernel_rfl) (by kernel_rfl) (by decide +kernel) (by rfl) (fun _ _ _ h => h) (Or.inl ⟨by rfl, ?yr8⟩) (ph_one (by kernel_rfl) hS1) ?rr8
 case yr8 => (intro w hSw; (try dsimp only at hSw); go_simp; try (with_reducible rfl))
 try simp only [Act.put, List.setIfInBounds_toArray, List.set_cons_zero, List.set_cons_succ]
 refine AnyTwo.step (i := 4) (o := { dst := some 107, op := _, type := _, pos := _, after := _, guard := _ }) (by kernel_rfl) rfl (fun K hK => ?_)
 go_simp
 refine (HK0.out _ _ (HS0.out.below hS1.1)).mono ?_
 rintro e w7 ⟨rfl, hb7⟩
 have hS1' : (fun w' : World => Below w.heap.size w w' ∧ (w.heap.size < w'.heap.size ∧ w'.cell? ⟨w.heap.size, 0, none⟩ = some (.int .i64 4) ∧ w'.cell? ⟨w.heap.size, 1, none⟩ = some (.int .i64 n) ∧ w'.cell? ⟨w.heap.size, 2, none⟩ = some (.slice (some ⟨b, o, none⟩) 2 cap)) ∧ (b < w'.heap.size ∧ w'.cell? ⟨b, o, none⟩ = some (.int .i64 T0.kind) ∧ w'.cell? ⟨b, o + 1, none⟩ = some (.int .i64 T0.num) ∧ w'.cell? ⟨b, o + 2, none⟩ = some (.slice a0 T0.kids.length n0)) ∧ (b < w'.heap.size ∧ w'.cell? ⟨b, o + 3, none⟩ = some (.int .i64 T1.kind) ∧ w'.cell? ⟨b, o + 4, none⟩ = some (.int .i64 T1.num) ∧ w'.cell? ⟨b, o + 5, none⟩ = some (.slice a1 T1.kids.length n1))) _ := ⟨bAfter hS1.1 hb7, row3_below hS1.2.1 hb7, row3_below hS1.2.2.1 hb7, row3_below hS1.2.2.2 hb7⟩
 refine hK.out _ _ (ph_one (by kernel_rfl) hS1') ?_
 clear hK K hS1
 have hS1 := hS1'
 clear hS1'
 try simp only [Act.put, List.setIfInBounds_toArray, List.set_cons_zero, List.set_cons_succ]
 refine AnyTwo.takeAny HT12 (i := 5) (oi := { dst := some 108, op := _, type := _, pos := _, after := _, guard := _ }) (v := ?vr9) rfl (by kernel_rfl) (by kernel_rfl) (by decide +kernel) (by rfl) (fun _ _ _ h => h) (Or.inl ⟨by rfl, ?yr9⟩) (ph_one (by kernel_rfl) hS1) ?rr9
 case yr9 => (intro w hSw; (try dsimp only at hSw); go_simp; try (with_reducible rfl))
 try simp only [Act.put, List.setIfInBounds_toArray, List.set_cons_zero, List.set_cons_succ]
 refine AnyTwo.takeAny HT12 (i := 6) (oi := { dst := some 109, op := _, type := _, pos := _, after := _, guard := _ }) (v := ?vr10) rfl (by kernel_rfl) (by kernel_rfl) (by decide +kernel) (by rfl) (fun _ _ _ h => h) (Or.inl ⟨by rfl, ?yr10⟩) (ph_one (by kernel_rfl) hS1) ?rr10
 case yr10 => (intro w hSw; (try dsimp only at hSw); go_simp; try (with_reducible rfl))
 try simp only [Act.put, List.setIfInBounds_toArray, List.set_cons_zero, List.set_cons_succ]
 refine AnyTwo.step (i := 11) (o := { dst := some 114, op := _, type := _, pos := _, after := _, guard := _ }) (by kernel_rfl) rfl (fun K hK => ?_)
 go_simp
 refine (HK1.out _ _ (HS1.out.below hS1.1)).mono ?_
 rintro e w7 ⟨rfl, hb7⟩
 have hS1' : (fun w' : World => Below w.heap.size w w' ∧ (w.heap.size < w'.heap.size ∧ w'.cell? ⟨w.heap.size, 0, none⟩ = some (.int .i64 4) ∧ w'.cell? ⟨w.heap.size, 1, none⟩ = some (.int .i64 n) ∧ w'.cell? ⟨w.heap.size, 2, none⟩ = some (.slice (some ⟨b, o, none⟩) 2 cap)) ∧ (b < w'.heap.size ∧ w'.cell? ⟨b, o, none⟩ = some (.int .i64 T0.kind) ∧ w'.cell? ⟨b, o + 1, none⟩ = some (.int .i64 T0.num) ∧ w'.cell? ⟨b, o + 2, none⟩ = some (.slice a0 T0.kids.length n0)) ∧ (b < w'.heap.size ∧ w'.cell? ⟨b, o + 3, none⟩ = some (.int .i64 T1.kind) ∧ w'.cell? ⟨b, o + 4, none⟩ = some (.int .i64 T1.num) ∧ w'.cell? ⟨b, o + 5, none⟩ = some (.slice a1 T1.kids.length n1))) _ := ⟨bAfter hS1.1 hb7, row3_below hS1.2.1 hb7, row3_below hS1.2.2.1 hb7, row3_below hS1.2.2.2 hb7⟩
 refine hK.out _ _ (ph_one (by kernel_rfl) hS1') ?_
 clear hK K hS1
 have hS1 := hS1'
 clear hS1'
 try simp only [Act.put, List.setIfInBounds_toArray, List.set_cons_zero, List.set_cons_succ]
 refine AnyTwo.takeAny HT12 (i := 12) (oi := { dst := some 115, op := _, type := _, pos := _, after := _, guard := _ }) (v := ?vr11) rfl (by kernel_rfl) (by kernel_rfl) (by decide +kernel) (by rfl) (fun _ _ _ h => h) (Or.inl ⟨by rfl, ?yr11⟩) (ph_one (by kernel_rfl) hS1) ?rr11
 case yr11 => (intro w hSw; (try dsimp only at hSw); go_simp; try (with_reducible rfl))
 try simp only [Act.put, List.setIfInBounds_toArray, List.set_cons_zero, List.set_cons_succ]
 refine AnyTwo.step (i := 13) (o := { dst := some 2, op := _, type := _, pos := _, after := _, guard := _ }) (by kernel_rfl) rfl (fun K hK => ?_)
 go_simp
 refine hK.out _ _ (ph_end (by kernel_rfl) hS1) ?_
 clear hK K
 try simp only [Act.put, List.setIfInBounds_toArray, List.set_cons_zero, List.set_cons_succ]
 refine AnyTwo.done (by kernel_rfl) ?_ _
 clear HT12
 have HB2 := tuck hS1.1
 clear hS1
 go_wp2_with fail
 exact HP.out _ _ (by rw [HE.out]) HB2.out
set_option maxRecDepth 100000 in
set_option maxHeartbeats 1600000 in
theorem text10_any (n : Int) (l : List Tm) (hok : (Tm.mk 10 n l).allOk) (hsz : sizes l ≤ 1000000)
  (hrec : ∀ i (hi : i < l.length) (w' : World) (s : Value), SlIn w' 0 l[i].kids s → Calls Tryz.prog 143 #[.agg #[.int .i64 l[i].kind, .int .i64 l[i].num, s]] w' (StrPost w' l[i].txt))
  (w : World) (v : Value) (hs : SlIn w 0 l v) : Calls Tryz.prog 143 #[.agg #[.int .i64 10, .int .i64 n, v]] w (StrPost w (Tm.mk 10 n l).txt) := by
 have hlen : l.length = 3 := by
  rw [Tm.allOk] at hok
  have := hok.1.1
  rw [show arity 10 = 3 by decide] at this
  omega
 have HP : Hid (∀ s w', s = (Tm.mk 10 n l).txt → Below w.heap.size w w' → StrPost w (Tm.mk 10 n l).txt (.returned (.string s)) w') := tuck fun s w' h hb => by rw [h]; exact ⟨rfl, hb⟩
 generalize StrPost w (Tm.mk 10 n l).txt = post at *
 have HL : Hid (∀ (W : World) (s : Value), SlIn W 0 l s → Calls Tryz.prog 149 #[s] W (StrPost W (joinN (txtL l) 3))) := tuck fun W s h => by have := list_any l (by omega) hsz hrec W s h; rwa [hlen] at this
 have HS := tuck hs
 obtain ⟨a, cap, b, o, rfl, -, hp, hc⟩ := hs.open
 obtain ⟨rfl, -, hbw⟩ := hp (by intro e; rw [e] at hlen; simp at hlen)
 have hjs : (joinN (txtL l) 3).size ≤ 8000100 := by
  have h1 := joinN_le (txtL l) 3
  have h2 := sumS_take_le (txtL l) 3
  have h3 := txtL_sum l
  omega
 have HE : Hid ((Tm.mk 10 n l).txt = (ByteArray.mk #[123]) ++ joinN (txtL l) 3 ++ (ByteArray.mk #[125])) := tuck (by rw [Tm.txt]; rfl)
 generalize joinN (txtL l) 3 = X at *
 have z1 : ¬ (9223372036854775807 < 1 + X.size) := by omega
 have z2 : ¬ (9223372036854775807 < 1 + X.size + 1) := by omega
 have HB := tuck (below1 w (.cells #[.int .i64 10, .int .i64 n, .slice (some ⟨b, o, none⟩) 3 cap] 34))
 rw [hlen] at *
 clear hrec hok hsz hc hp hjs hlen
 go_enter Tryz.func143, Tryz.ntmps143
 go_wp2_with fail
 refine (HL.out _ _ (HS.out.below HB.out)).mono ?_
 rintro e w2 ⟨rfl, hb2⟩
 have HB2 := tuck (bAfter HB.out hb2)
 clear hb2
 go_wp2_with fail
 exact HP.out _ _ (by rw [HE.out]) HB2.out
set_option maxRecDepth 100000 in
set_option maxHeartbeats 1600000 in
theorem text14_any (n : Int) (l : List Tm) (hok : (Tm.mk 14 n l).allOk) (hsz : sizes l ≤ 1000000)
  (hrec : ∀ i (hi : i < l.length) (w' : World) (s : Value), SlIn w' 0 l[i].kids s → Calls Tryz.prog 143 #[.agg #[.int .i64 l[i].kind, .int .i64 l[i].num, s]] w' (StrPost w' l[i].txt))
  (w : World) (v : Value) (hs : SlIn w 0 l v) : Calls Tryz.prog 143 #[.agg #[.int .i64 14, .int .i64 n, v]] w (StrPost w (Tm.mk 14 n l).txt) := by
 have hlen : l.length = 3 := by
  rw [Tm.allOk] at hok
  have := hok.1.1
  rw [show arity 14 = 3 by decide] at this
  omega
 have HP : Hid (∀ s w', s = (Tm.mk 14 n l).txt → Below w.heap.size w w' → StrPost w (Tm.mk 14 n l).txt (.returned (.string s)) w') := tuck fun s w' h hb => by rw [h]; exact ⟨rfl, hb⟩
 generalize StrPost w (Tm.mk 14 n l).txt = post at *
 have HL : Hid (∀ (W : World) (s : Value), SlIn W 0 l s → Calls Tryz.prog 149 #[s] W (StrPost W (joinN (txtL l) 3))) := tuck fun W s h => by have := list_any l (by omega) hsz hrec W s h; rwa [hlen] at this
 have HS := tuck hs
 obtain ⟨a, cap, b, o, rfl, -, hp, hc⟩ := hs.open
 obtain ⟨rfl, -, hbw⟩ := hp (by intro e; rw [e] at hlen; simp at hlen)
 have hjs : (joinN (txtL l) 3).size ≤ 8000100 := by
  have h1 := joinN_le (txtL l) 3
  have h2 := sumS_take_le (txtL l) 3
  have h3 := txtL_sum l
  omega
 have HE : Hid ((Tm.mk 14 n l).txt = (ByteArray.mk #[124]) ++ joinN (txtL l) 3 ++ (ByteArray.mk #[124])) := tuck (by rw [Tm.txt]; rfl)
 generalize joinN (txtL l) 3 = X at *
 have z1 : ¬ (9223372036854775807 < 1 + X.size) := by omega
 have z2 : ¬ (9223372036854775807 < 1 + X.size + 1) := by omega
 have HB := tuck (below1 w (.cells #[.int .i64 14, .int .i64 n, .slice (some ⟨b, o, none⟩) 3 cap] 34))
 rw [hlen] at *
 clear hrec hok hsz hc hp hjs hlen
 go_enter Tryz.func143, Tryz.ntmps143
 go_wp2_with fail
 refine (HL.out _ _ (HS.out.below HB.out)).mono ?_
 rintro e w2 ⟨rfl, hb2⟩
 have HB2 := tuck (bAfter HB.out hb2)
 clear hb2
 go_wp2_with fail
 exact HP.out _ _ (by rw [HE.out]) HB2.out
set_option maxRecDepth 100000 in
set_option maxHeartbeats 1600000 in
theorem text12_any (n : Int) (l : List Tm) (hok : (Tm.mk 12 n l).allOk) (hsz : sizes l ≤ 1000000)
  (hrec : ∀ i (hi : i < l.length) (w' : World) (s : Value), SlIn w' 0 l[i].kids s → Calls Tryz.prog 143 #[.agg #[.int .i64 l[i].kind, .int .i64 l[i].num, s]] w' (StrPost w' l[i].txt))
  (w : World) (v : Value) (hs : SlIn w 0 l v) : Calls Tryz.prog 143 #[.agg #[.int .i64 12, .int .i64 n, v]] w (StrPost w (Tm.mk 12 n l).txt) := by
 have hlen : l.length = 3 := by
  rw [Tm.allOk] at hok
  have := hok.1.1
  rw [show arity 12 = 3 by decide] at this
  omega
 have HP : Hid (∀ s w', s = (Tm.mk 12 n l).txt → Below w.heap.size w w' → StrPost w (Tm.mk 12 n l).txt (.returned (.string s)) w') := tuck fun s w' h hb => by rw [h]; exact ⟨rfl, hb⟩
 generalize StrPost w (Tm.mk 12 n l).txt = post at *
 have HL : Hid (∀ (W : World) (s : Value), SlIn W 0 l s → Calls Tryz.prog 149 #[s] W (StrPost W (joinN (txtL l) 3))) := tuck fun W s h => by have := list_any l (by omega) hsz hrec W s h; rwa [hlen] at this
 have HS := tuck hs
 obtain ⟨a, cap, b, o, rfl, -, hp, hc⟩ := hs.open
 obtain ⟨rfl, -, hbw⟩ := hp (by intro e; rw [e] at hlen; simp at hlen)
 have hjs : (joinN (txtL l) 3).size ≤ 8000100 := by
  have h1 := joinN_le (txtL l) 3
  have h2 := sumS_take_le (txtL l) 3
  have h3 := txtL_sum l
  omega
 have HE : Hid ((Tm.mk 12 n l).txt = (ByteArray.mk #[64, 60]) ++ joinN (txtL l) 3 ++ (ByteArray.mk #[62])) := tuck (by rw [Tm.txt]; rfl)
 generalize joinN (txtL l) 3 = X at *
 have z1 : ¬ (9223372036854775807 < 2 + X.size) := by omega
 have z2 : ¬ (9223372036854775807 < 2 + X.size + 1) := by omega
 have HB := tuck (below1 w (.cells #[.int .i64 12, .int .i64 n, .slice (some ⟨b, o, none⟩) 3 cap] 34))
 rw [hlen] at *
 clear hrec hok hsz hc hp hjs hlen
 go_enter Tryz.func143, Tryz.ntmps143
 go_wp2_with fail
 refine (HL.out _ _ (HS.out.below HB.out)).mono ?_
 rintro e w2 ⟨rfl, hb2⟩
 have HB2 := tuck (bAfter HB.out hb2)
 clear hb2
 go_wp2_with fail
 exact HP.out _ _ (by rw [HE.out]) HB2.out
set_option maxRecDepth 100000 in
set_option maxHeartbeats 1600000 in
theorem text9_any (n : Int) (l : List Tm) (hok : (Tm.mk 9 n l).allOk) (hsz : sizes l ≤ 1000000)
  (hrec : ∀ i (hi : i < l.length) (w' : World) (s : Value), SlIn w' 0 l[i].kids s → Calls Tryz.prog 143 #[.agg #[.int .i64 l[i].kind, .int .i64 l[i].num, s]] w' (StrPost w' l[i].txt))
  (w : World) (v : Value) (hs : SlIn w 0 l v) : Calls Tryz.prog 143 #[.agg #[.int .i64 9, .int .i64 n, v]] w (StrPost w (Tm.mk 9 n l).txt) := by
 have hlen : l.length = 4 := by
  rw [Tm.allOk] at hok
  have := hok.1.1
  rw [show arity 9 = 4 by decide] at this
  omega
 have HP : Hid (∀ s w', s = (Tm.mk 9 n l).txt → Below w.heap.size w w' → StrPost w (Tm.mk 9 n l).txt (.returned (.string s)) w') := tuck fun s w' h hb => by rw [h]; exact ⟨rfl, hb⟩
 generalize StrPost w (Tm.mk 9 n l).txt = post at *
 have HL : Hid (∀ (W : World) (s : Value), SlIn W 0 l s → Calls Tryz.prog 149 #[s] W (StrPost W (joinN (txtL l) 4))) := tuck fun W s h => by have := list_any l (by omega) hsz hrec W s h; rwa [hlen] at this
 have HS := tuck hs
 obtain ⟨a, cap, b, o, rfl, -, hp, hc⟩ := hs.open
 obtain ⟨rfl, -, hbw⟩ := hp (by intro e; rw [e] at hlen; simp at hlen)
 have hjs : (joinN (txtL l) 4).size ≤ 8000100 := by
  have h1 := joinN_le (txtL l) 4
  have h2 := sumS_take_le (txtL l) 4
  have h3 := txtL_sum l
  omega
 have HE : Hid ((Tm.mk 9 n l).txt = (ByteArray.mk #[60]) ++ joinN (txtL l) 4 ++ (ByteArray.mk #[62])) := tuck (by rw [Tm.txt]; rfl)
 generalize joinN (txtL l) 4 = X at *
 have z1 : ¬ (9223372036854775807 < 1 + X.size) := by omega
 have z2 : ¬ (9223372036854775807 < 1 + X.size + 1) := by omega
 have HB := tuck (below1 w (.cells #[.int .i64 9, .int .i64 n, .slice (some ⟨b, o, none⟩) 4 cap] 34))
 rw [hlen] at *
 clear hrec hok hsz hc hp hjs hlen
 go_enter Tryz.func143, Tryz.ntmps143
 go_wp2_with fail
 refine (HL.out _ _ (HS.out.below HB.out)).mono ?_
 rintro e w2 ⟨rfl, hb2⟩
 have HB2 := tuck (bAfter HB.out hb2)
 clear hb2
 go_wp2_with fail
 exact HP.out _ _ (by rw [HE.out]) HB2.out
theorem text_any : ∀ (l : List Tm) (k n : Int) (w : World) (v : Value), (Tm.mk k n l).allOk → sizes l ≤ 1000000 → SlIn w 0 l v → Calls Tryz.prog 143 #[.agg #[.int .i64 k, .int .i64 n, v]] w (StrPost w (Tm.mk k n l).txt) := by
 intro l
 induction l using Tm.ind with
 | h l ih =>
  intro k n w v hok hsz hs
  have hok2 := hok
  rw [Tm.allOk] at hok2
  obtain ⟨hr, hkok⟩ := hok2
  have hrec : ∀ i (hi : i < l.length) (w' : World) (s : Value), SlIn w' 0 l[i].kids s → Calls Tryz.prog 143 #[.agg #[.int .i64 l[i].kind, .int .i64 l[i].num, s]] w' (StrPost w' l[i].txt) := fun i hi w' s h => by
   have h1 := ih i hi l[i].kind l[i].num w' s (by rw [Tm.eta]; exact (allsOk_iff _).1 hkok _ (List.getElem_mem hi)) (by have := kids_get_lt l i hi; omega) h
   rwa [Tm.eta] at h1
  by_cases h1 : k = 1
  ·subst h1; exact text1_any n l hok hsz hrec w v hs
  by_cases h2 : k = 2
  ·subst h2; exact text2_any n l hok hsz hrec w v hs
  by_cases h6 : k = 6
  ·subst h6; exact text6_any n l hok hsz hrec w v hs
  by_cases h7 : k = 7
  ·subst h7; exact text7_any n l hok hsz hrec w v hs
  by_cases h8 : k = 8
  ·subst h8; exact text8_any n l hok hsz hrec w v hs
  by_cases h11 : k = 11
  ·subst h11; exact text11_any n l hok hsz hrec w v hs
  by_cases h15 : k = 15
  ·subst h15; exact text15_any n l hok hsz hrec w v hs
  by_cases h16 : k = 16
  ·subst h16; exact text16_any n l hok hsz hrec w v hs
  by_cases h3 : k = 3
  ·subst h3; exact text3_any n l hok hsz hrec w v hs
  by_cases h13 : k = 13
  ·subst h13; exact text13_any n l hok hsz hrec w v hs
  by_cases h5 : k = 5
  ·subst h5; exact text5_any n l hok hsz hrec w v hs
  by_cases h4 : k = 4
  ·subst h4; exact text4_any n l hok hsz hrec w v hs
  by_cases h10 : k = 10
  ·subst h10; exact text10_any n l hok hsz hrec w v hs
  by_cases h14 : k = 14
  ·subst h14; exact text14_any n l hok hsz hrec w v hs
  by_cases h12 : k = 12
  ·subst h12; exact text12_any n l hok hsz hrec w v hs
  by_cases h9 : k = 9
  ·subst h9; exact text9_any n l hok hsz hrec w v hs
  exfalso
  have := hr.1
  unfold arity at this
  (repeat' split at this) <;> omega
end Go.Proofs.YtpddjebdncaceaaGreat
