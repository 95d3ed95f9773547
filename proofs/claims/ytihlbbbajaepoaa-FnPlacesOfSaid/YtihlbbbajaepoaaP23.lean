/-
  Plc, Text.
-/
import Derived.Test.YtihlbbbajaepoaaP05
import Derived.Test.YtihlbbbajaepoaaP09
import Derived.Test.YtihlbbbajaepoaaP16
import Derived.Test.YtihlbbbajaepoaaP20
import Derived.Laws.IdiomStrings
namespace Go.Proofs.Ytihlbbbajaepoaa
def way (t : Tm) (N : Int → Int) : Nat → Option (List (Tm × Nat) × Tm)
 | 0 => some ([], t)
 | i + 1 => (way t N i).bind fun x => if 0 ≤ N i ∧ N i < (x.2.kids.length : Int) then some (x.1 ++ [(x.2, (N i).toNat)], kidT x.2 (N i).toNat) else none
def wayP (t : Tm) (N : Int → Int) (i : Nat) : List (Tm × Nat) := ((way t N i).getD ([], zeroT)).1
def wayT (t : Tm) (N : Int → Int) (i : Nat) : Tm := ((way t N i).getD ([], zeroT)).2
def IsPlace (t : Tm) (N : Int → Int) (len : Nat) : Prop := t.Valid ∧ (way t N len).isSome = true
theorem way_yes {t : Tm} {N : Int → Int} {i : Nat} {p : List (Tm × Nat)} {x : Tm} (h : way t N i = some (p, x)) (hi : 0 ≤ N i ∧ N i < (x.kids.length : Int)) : way t N (i + 1) = some (p ++ [(x, (N i).toNat)], kidT x (N i).toNat) := by
 rw [way, h]
 simp only [Option.bind_some]
 rw [if_pos hi]
theorem way_no {t : Tm} {N : Int → Int} {i : Nat} {p : List (Tm × Nat)} {x : Tm} (h : way t N i = some (p, x)) (hi : ¬ (0 ≤ N i ∧ N i < (x.kids.length : Int))) : way t N (i + 1) = none := by
 rw [way, h]
 simp only [Option.bind_some]
 rw [if_neg hi]
theorem way_stays {t : Tm} {N : Int → Int} {i : Nat} (h : way t N i = none) : ∀ k, way t N (i + k) = none
 | 0 => h
 | k + 1 => by
  rw [← Nat.add_assoc, way, way_stays h k]
  rfl
theorem no_place {t : Tm} {N : Int → Int} {i len : Nat} {p : List (Tm × Nat)} {x : Tm} (h : way t N i = some (p, x)) (hi : ¬ (0 ≤ N i ∧ N i < (x.kids.length : Int))) (hl : i < len) : ¬ IsPlace t N len := by
 rintro ⟨-, h2⟩
 have := way_stays (way_no h hi) (len - (i + 1))
 rw [show i + 1 + (len - (i + 1)) = len by omega] at this
 rw [this] at h2
 cases h2
theorem is_place {t : Tm} {N : Int → Int} {len : Nat} {p : List (Tm × Nat)} {x : Tm} (hv : t.Valid) (h : way t N len = some (p, x)) : IsPlace t N len ∧ wayP t N len = p ∧ wayT t N len = x := by
 refine ⟨⟨hv, by rw [h]; rfl⟩, ?_, ?_⟩
 ·rw [wayP, h]; rfl
 ·rw [wayT, h]; rfl
theorem IsPlace.way {t : Tm} {N : Int → Int} {len : Nat} (h : IsPlace t N len) : way t N len = some (wayP t N len, wayT t N len) := by
 obtain ⟨-, h⟩ := h
 unfold wayP wayT
 cases hw : Go.Proofs.Ytihlbbbajaepoaa.way t N len with
 | none => rw [hw] at h; cases h
 | some y => rfl
def Chain (t : Tm) : List (Tm × Nat) → Tm → Prop
 | [], x => t = x
 | (a, i) :: p, x => a = t ∧ i < t.kids.length ∧ Chain (kidT t i) p x
theorem Chain.snoc : ∀ {p : List (Tm × Nat)} {t x : Tm} {i : Nat}, Chain t p x → i < x.kids.length → Chain t (p ++ [(x, i)]) (kidT x i)
 | [], _, _, _, h, hi => by
  rw [Chain] at h
  subst h
  exact ⟨rfl, hi, rfl⟩
 | (a, j) :: p, t, x, i, h, hi => ⟨h.1, h.2.1, Chain.snoc (p := p) h.2.2 hi⟩
theorem around_snoc : ∀ (p : List (Tm × Nat)) (x z : Tm) (i : Nat), around (p ++ [(x, i)]) z = around p (.mk x.kind x.num (x.kids.set i z))
 | [], x, z, i => rfl
 | (a, j) :: p, x, z, i => by
  rw [List.cons_append, around, around, around_snoc p x z i]
theorem set_kidT {l : List Tm} {i : Nat} (hi : i < l.length) : l.set i (l.getD i zeroT) = l := by
 apply List.ext_getElem
 ·simp
 ·intro j h1 h2
  by_cases e : i = j
  ·subst e
   simp [List.getD_eq_getElem?_getD, List.getElem?_eq_getElem hi]
  ·simp [List.getElem_set_ne e]
theorem inPath_snoc : ∀ {p : List (Tm × Nat)} {x : Tm} {i : Nat}, InPath p → i < x.kids.length → InPath (p ++ [(x, i)])
 | [], _, _, _, hi => ⟨hi, trivial⟩
 | _ :: p, _, _, h, hi => ⟨h.1, inPath_snoc (p := p) h.2 hi⟩
structure Known (t : Tm) (N : Int → Int) (i : Nat) (p : List (Tm × Nat)) (x : Tm) : Prop where
 len : p.length = i
 valid : x.Valid
 room : hgts x.kids + p.length ≤ hgts t.kids
 inn : InPath p
 nodes : ∀ y ∈ p, y.1.Valid
 back : around p x = t
 chain : Chain t p x
 ix : ∀ j (h : j < p.length), ((p[j].2 : Nat) : Int) = N (j : Int)
theorem way_ok {t : Tm} {N : Int → Int} (hv : t.Valid) : ∀ (i : Nat) (p : List (Tm × Nat)) (x : Tm), way t N i = some (p, x) → Known t N i p x
 | 0, p, x, h => by
  rw [way] at h
  obtain ⟨rfl, rfl⟩ : [] = p ∧ t = x := by simpa using h
  exact ⟨rfl, hv, Nat.le_refl _, trivial, fun y hy => (by cases hy), rfl, rfl, fun j h => (by simp at h)⟩
 | i + 1, p, x, h => by
  rw [way] at h
  cases hw : way t N i with
  | none => rw [hw] at h; cases h
  | some y =>
   obtain ⟨q, z⟩ := y
   rw [hw] at h
   simp only [Option.bind_some] at h
   by_cases hi : 0 ≤ N i ∧ N i < (z.kids.length : Int)
   ·rw [if_pos hi] at h
    obtain ⟨rfl, rfl⟩ : q ++ [(z, (N i).toNat)] = p ∧ kidT z (N i).toNat = x := by simpa using h
    have ih := way_ok hv i q z hw
    have hj : (N i).toNat < z.kids.length := by omega
    refine ⟨by simp [ih.len], ih.valid.kidT hj, ?_, inPath_snoc ih.inn hj, ?_, ?_, ih.chain.snoc hj, ?_⟩
    ·have h1 := mem_hgts hj
     rw [kidT_eq hj]
     have h2 := (z.kids[(N i).toNat]).hgt_eq
     have h3 := ih.room
     rw [List.length_append, List.length_singleton]
     omega
    ·intro y hy
     rcases List.mem_append.1 hy with hy | hy
     ·exact ih.nodes y hy
     ·rw [List.mem_singleton.1 hy]; exact ih.valid
    ·rw [around_snoc]
     unfold kidT
     rw [set_kidT hj, Tm.eta]
     exact ih.back
    ·intro j hjl
     rw [List.length_append, List.length_singleton] at hjl
     rcases Nat.lt_or_ge j q.length with hlt | hge
     ·rw [List.getElem_append_left hlt]; exact ih.ix j hlt
     ·have e : j = q.length := by omega
      subst e
      rw [List.getElem_append_right (Nat.le_refl _)]
      simp only [Nat.sub_self, List.getElem_cons_zero]
      rw [ih.len]
      omega
   ·rw [if_neg hi] at h; cases h
theorem IsPlace.ok {t : Tm} {N : Int → Int} {len : Nat} (h : IsPlace t N len) : Known t N len (wayP t N len) (wayT t N len) := way_ok h.1 _ _ _ h.way
theorem Known.short {t : Tm} {N : Int → Int} {i : Nat} {p : List (Tm × Nat)} {x : Tm} (h : Known t N i p x) (hv : t.Valid) : i ≤ 29 ∧ p.length ≤ 29 := by
 have h1 := h.room
 have h2 := h.len
 have h3 := t.hgt_eq
 have h4 := hv.2.1
 omega
theorem Tm.Valid.kids4 {t : Tm} (h : t.Valid) : t.kids.length ≤ 4 := by
 have h1 := h.root.1
 have : arity t.kind ≤ 4 := by unfold arity; (repeat' split) <;> omega
 omega
end Go.Proofs.Ytihlbbbajaepoaa
namespace Go.Proofs.Ytihlbbbajaepoaa
open Go.RowKit
def decS (n : Nat) : ByteArray := if n ≤ 9 then ByteArray.mk #[UInt8.ofNat (48 + n)] else ByteArray.mk #[UInt8.ofNat (48 + n / 10), UInt8.ofNat (48 + n % 10)]
def kidS (L : List ByteArray) (i : Nat) : ByteArray := L.getD i (ByteArray.mk #[])
def joinN (L : List ByteArray) : Nat → ByteArray
 | 0 => (ByteArray.mk #[])
 | q + 1 => (if 0 < q then joinN L q ++ (ByteArray.mk #[44]) else joinN L q) ++ kidS L q
def txtOf (k : Int) (n : Nat) (L : List ByteArray) : ByteArray :=
 if k = 1 then (ByteArray.mk #[35]) ++ decS n else if k = 2 then (ByteArray.mk #[42]) ++ decS n else if k = 6 then (ByteArray.mk #[78]) else if k = 7 then (ByteArray.mk #[48])
 else if k = 8 then (ByteArray.mk #[43]) ++ kidS L 0
 else if k = 11 then (ByteArray.mk #[33]) ++ kidS L 0
 else if k = 15 then (ByteArray.mk #[94]) ++ kidS L 0
 else if k = 16 then (ByteArray.mk #[95]) ++ kidS L 0
 else if k = 3 then (ByteArray.mk #[40]) ++ kidS L 0 ++ (ByteArray.mk #[62]) ++ kidS L 1 ++ (ByteArray.mk #[41])
 else if k = 13 then (ByteArray.mk #[40]) ++ kidS L 0 ++ (ByteArray.mk #[42]) ++ kidS L 1 ++ (ByteArray.mk #[41])
 else if k = 5 then (ByteArray.mk #[40]) ++ kidS L 0 ++ (ByteArray.mk #[32]) ++ kidS L 1 ++ (ByteArray.mk #[41])
 else if k = 4 then (ByteArray.mk #[91]) ++ kidS L 0 ++ (ByteArray.mk #[93]) ++ kidS L 1
 else if k = 10 then (ByteArray.mk #[123]) ++ joinN L 3 ++ (ByteArray.mk #[125])
 else if k = 14 then (ByteArray.mk #[124]) ++ joinN L 3 ++ (ByteArray.mk #[124])
 else if k = 12 then (ByteArray.mk #[64, 60]) ++ joinN L 3 ++ (ByteArray.mk #[62])
 else (ByteArray.mk #[60]) ++ joinN L 4 ++ (ByteArray.mk #[62])
mutual
def Tm.txt : Tm → ByteArray
 | .mk k n l => txtOf k n.toNat (txtL l)
def txtL : List Tm → List ByteArray
 | [] => []
 | t :: l => t.txt :: txtL l
end
theorem kidS_txt : ∀ (l : List Tm) (i : Nat) (h : i < l.length), kidS (txtL l) i = l[i].txt
 | t :: l, 0, h => by rw [txtL]; rfl
 | t :: l, i + 1, h => by
  have := kidS_txt l i (by simpa using h)
  rw [txtL]
  exact this
theorem decS_size (n : Nat) : (decS n).size ≤ 2 := by unfold decS; split <;> simp [ByteArray.size]
def StrPost (w : World) (s : ByteArray) (e : Ending) (w' : World) : Prop := e = .returned (.string s) ∧ Below w.heap.size w w'
theorem ba_empty (a : ByteArray) : a ++ ByteArray.mk #[] = a := by
 apply ByteArray.ext
 simp [ByteArray.data_append]
theorem ba_pair (x y : UInt8) : ByteArray.mk #[x] ++ ByteArray.mk #[y] = ByteArray.mk #[x, y] := by
 apply ByteArray.ext
 simp [ByteArray.data_append]
theorem byte_text (m : Nat) (hm : m ≤ 255) (W : World) : (convert 49 9 (.slice (some ⟨W.heap.size, 0, none⟩) 1 1)).run Try.prog (W.alloc (.cells #[.int .u8 m] 5)) = .ok (.string (ByteArray.mk #[UInt8.ofNat m])) (W.alloc (.cells #[.int .u8 m] 5)) := by
 have h := run_convert_bytes_back (P := Try.prog) (W.alloc (.cells #[.int .u8 m] 5)) 49 9 5 ⟨W.heap.size, 0, none⟩ 1 [UInt8.ofNat m] Try.underlying49 Try.underlying5 Try.underlying9 (fun j hj => by
  have hj0 : j = 0 := by simpa using hj
  subst hj0
  have e : (UInt8.ofNat m).toNat = m := by simp; omega
  simp only [List.getElem_cons_zero, e]
  show (W.alloc _).cell? ⟨W.heap.size, 0, none⟩ = _
  rw [World.cell?_alloc_new]
  rfl)
 exact h
set_option maxRecDepth 100000 in
set_option maxHeartbeats 1600000 in
theorem dec_any (n : Nat) (hn : n ≤ 99) (w : World) : Calls Try.prog 108 #[.int .i64 n] w (StrPost w (decS n)) := by
 have HP : Hid (∀ s w', s = decS n → Below w.heap.size w w' → StrPost w (decS n) (.returned (.string s)) w') := tuck fun s w' h hb => by rw [h]; exact ⟨rfl, hb⟩
 generalize StrPost w (decS n) = post at *
 have h1 : decide ((n : Int) < -9223372036854775807) = false := decide_eq_false (by omega)
 have h2 : decide ((n : Int) < 0) = false := decide_eq_false (by omega)
 have HT := tuck byte_text
 go_enter Try.func108, Try.ntmps108
 go_wp2_with fail
 go_loopw [0, 3] (fun m out wr => ∃ (k : Nat) (o : ByteArray), out = .string o ∧ m = .int .i64 k ∧ k ≤ n ∧ Below w.heap.size w wr ∧ ((k = n ∧ o = ByteArray.mk #[]) ∨ (9 < n ∧ k = n / 10 ∧ o = ByteArray.mk #[UInt8.ofNat (48 + n % 10)]))) (fun m _ _ => (intOf m).toNat)
 case atStart => exact ⟨n, _, rfl, rfl, Nat.le_refl _, Below.refl _ _, Or.inl ⟨rfl, rfl⟩⟩
 case round =>
  obtain ⟨k, o, rfl, rfl, hk, hb, hor⟩ := hrel
  have HB := tuck hb
  have HOR := tuck hor
  clear hb hor
  by_cases h9 : k ≤ 9
  ·have h3 : decide ((9 : Int) < (k : Int)) = false := decide_eq_false (by omega)
   have hcv := HT.out (48 + k) (by omega) wr
   rw [show ((48 + k : Nat) : Int) = 48 + (k : Int) by omega] at hcv
   obtain ⟨c, hc⟩ : ∃ c, c = ByteArray.mk #[UInt8.ofNat (48 + k)] := ⟨_, rfl⟩
   rw [← hc] at hcv
   have hsz : ¬ (9223372036854775807 < c.size + o.size) := by
    have h1 : c.size = 1 := by rw [hc]; rfl
    have h2 : o.size ≤ 1 := by rcases HOR.out with ⟨_, rfl⟩ | ⟨_, _, rfl⟩ <;> simp [ByteArray.size]
    omega
   have HEND : Hid (∀ w', Below w.heap.size w w' → post (.returned (.string (c ++ o))) w') := tuck fun w' hb => HP.out _ w' (by
    rw [hc]
    rcases HOR.out with ⟨rfl, rfl⟩ | ⟨h10, rfl, rfl⟩
    ·rw [ba_empty, decS, if_pos h9]
    ·rw [ba_pair, decS, if_neg (by omega)]) hb
   clear hc
   go_wp2_with fail
   exact HEND.out _ (HB.out.alloc (HB.out.size) _)
  ·have h3 : decide ((9 : Int) < (k : Int)) = true := decide_eq_true (by omega)
   have hcv := HT.out (48 + k % 10) (by omega) wr
   rw [show ((48 + k % 10 : Nat) : Int) = 48 + (k : Int) % 10 by omega] at hcv
   have HKN : Hid (k = n ∧ o = ByteArray.mk #[]) := tuck (by
    rcases HOR.out with h | ⟨h10, rfl, rfl⟩
    ·exact h
    ·omega)
   obtain ⟨c, hc⟩ : ∃ c, c = ByteArray.mk #[UInt8.ofNat (48 + k % 10)] := ⟨_, rfl⟩
   rw [← hc] at hcv
   have hsz : ¬ (9223372036854775807 < c.size + o.size) := by
    have h1 : c.size = 1 := by rw [hc]; rfl
    have h2 : o.size ≤ 1 := by rcases HOR.out with ⟨_, rfl⟩ | ⟨_, _, rfl⟩ <;> simp [ByteArray.size]
    omega
   have HC := tuck hc
   clear HOR hc
   go_wp2_with fail
   go_roundw
   case rel =>
    obtain ⟨rfl, rfl⟩ := HKN.out
    exact ⟨k / 10, _, rfl, by go_num, by omega, HB.out.alloc (HB.out.size) _, Or.inr ⟨by omega, rfl, by rw [HC.out]; exact ba_empty _⟩⟩
   case measure => simp [intOf]; omega
end Go.Proofs.Ytihlbbbajaepoaa
