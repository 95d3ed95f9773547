/-
  Text, DevP, Vars.
-/
import Derived.Test.YtlnpebdmekccaaaGreatE03
import Derived.Test.YtlnpebdmekccaaaGreatE16
import Derived.Test.YtlnpebdmekccaaaGreatE17
import Derived.Test.YtlnpebdmekccaaaGreatE19
import Derived.Test.YtlnpebdmekccaaaGreatE21
import Derived.Test.YtlnpebdmekccaaaGreatE23
import Derived.Test.YtlnpebdmekccaaaGreatE25
import Derived.Test.YtlnpebdmekccaaaGreatE36
import Derived.Laws.IdiomStrings
namespace Go.Proofs.YtlnpebdmekccaaaGreat
open Go.RowKit
structure TV (g : Nat) (T : Tm) (a : Option Addr) (c : Nat) (w : World) : Prop where
 var : VarAt g T.kind T.num (.slice a T.kids.length c) w
 sl : SlIn w 0 T.kids (.slice a T.kids.length c)
theorem TV.below {g : Nat} {T : Tm} {a : Option Addr} {c : Nat} {w w' : World} (h : TV g T a c w) (hb : Below w.heap.size w w') : TV g T a c w' := ⟨h.var.below hb, h.sl.below hb⟩
theorem TV.new {T : Tm} {a : Option Addr} {c : Nat} {w : World} (h : SlIn w 0 T.kids (.slice a T.kids.length c)) : TV w.heap.size T a c (w.alloc (.cells #[.int .i64 T.kind, .int .i64 T.num, .slice a T.kids.length c] 25)) := ⟨VarAt.new _ _ _ _, h.below (below1 _ _)⟩
theorem TV.tm {g : Nat} {T : Tm} {a : Option Addr} {c : Nat} {w : World} (h : TV g T a c w) : TmIn w 0 T (.agg #[.int .i64 T.kind, .int .i64 T.num, .slice a T.kids.length c]) := ⟨_, rfl, h.sl⟩
theorem TV.facts {g : Nat} {T : Tm} {a : Option Addr} {c : Nat} {w : World} (h : TV g T a c w) : g < w.heap.size ∧ w.cell? ⟨g, 0, none⟩ = some (.int .i64 T.kind) ∧ w.cell? ⟨g, 1, none⟩ = some (.int .i64 T.num) ∧ w.cell? ⟨g, 2, none⟩ = some (.slice a T.kids.length c) ∧ ∀ i, w.frozen? ⟨g, i, none⟩ = false := h.var.facts
def PairPost (w : World) (T : Tm) (b : Bool) (e : Ending) (w' : World) : Prop := Below w.heap.size w w' ∧ ∃ v, e = .returned (.tuple #[v, .bool b]) ∧ TmIn w' 0 T v
theorem ReplPost.pair {w w' : World} {P : Prop} {T : Tm} {e : Ending} (h : ReplPost w P T e w') : PairPost w (orZero P T) (tr P) e w' := by
 obtain ⟨hb, v, he, s, F, hv, hs, -, -⟩ := h
 exact ⟨hb, v, he, s, hv, hs.sl fun _ _ => Nat.zero_le _⟩
theorem SReplPost.pair {w w' : World} {P : Prop} {T : Tm} {e : Ending} (h : SReplPost w P T e w') : PairPost w (orZero P T) (tr P) e w' := h
theorem orZero_yes {P : Prop} {T : Tm} (h : P) : orZero P T = T := by unfold orZero; rw [if_pos h]
theorem orZero_no {P : Prop} {T : Tm} (h : ¬ P) : orZero P T = zeroT := by unfold orZero; rw [if_neg h]
theorem same_z (w : World) (v1 v2 : Value) (h1 : TmIn w 0 zeroT v1) (h2 : TmIn w 0 zeroT v2) : Calls Tryz.prog 10 #[v1, v2] w (BoolPost w true) := by
 have := termSame_any zeroT zeroT w v1 v2 (Or.inr rfl) h1 h2
 rwa [same_self] at this
theorem same_v {T : Tm} (hT : T.Valid) (w : World) (v1 v2 : Value) (h1 : TmIn w 0 T v1) (h2 : TmIn w 0 T v2) : Calls Tryz.prog 10 #[v1, v2] w (BoolPost w true) := by
 have := termSame_any T T w v1 v2 (Or.inl hT) h1 h2
 rwa [same_self] at this
end Go.Proofs.YtlnpebdmekccaaaGreat
namespace Go.Proofs.YtlnpebdmekccaaaGreat
open Go.RowKit
def decS (n : Nat) : ByteArray := if n ≤ 9 then ByteArray.mk #[UInt8.ofNat (48 + n)] else ByteArray.mk #[UInt8.ofNat (48 + n / 10), UInt8.ofNat (48 + n % 10)]
def kidS (L : List ByteArray) (i : Nat) : ByteArray := L.getD i (ByteArray.mk #[])
def joinN (L : List ByteArray) : Nat → ByteArray
 | 0 => (ByteArray.mk #[])
 | q + 1 => (if 0 < q then joinN L q ++ (ByteArray.mk #[44]) else joinN L q) ++ kidS L q
def txtOf (k : Int) (n : Nat) (L : List ByteArray) : ByteArray :=
 if k = 1 then (ByteArray.mk #[35]) ++ decS n else if k = 2 then (ByteArray.mk #[42]) ++ decS n else if k = 6 then (ByteArray.mk #[78]) else if k = 7 then (ByteArray.mk #[48])
 else if k = 8 then (ByteArray.mk #[43]) ++ kidS L 0
 else if k = 11 then (ByteArray.mk #[33]) ++ kidS L 0
 else if k = 15 then (ByteArray.mk #[94]) ++ kidS L 0
 else if k = 16 then (ByteArray.mk #[95]) ++ kidS L 0
 else if k = 3 then (ByteArray.mk #[40]) ++ kidS L 0 ++ (ByteArray.mk #[62]) ++ kidS L 1 ++ (ByteArray.mk #[41])
 else if k = 13 then (ByteArray.mk #[40]) ++ kidS L 0 ++ (ByteArray.mk #[42]) ++ kidS L 1 ++ (ByteArray.mk #[41])
 else if k = 5 then (ByteArray.mk #[40]) ++ kidS L 0 ++ (ByteArray.mk #[32]) ++ kidS L 1 ++ (ByteArray.mk #[41])
 else if k = 4 then (ByteArray.mk #[91]) ++ kidS L 0 ++ (ByteArray.mk #[93]) ++ kidS L 1
 else if k = 10 then (ByteArray.mk #[123]) ++ joinN L 3 ++ (ByteArray.mk #[125])
 else if k = 14 then (ByteArray.mk #[124]) ++ joinN L 3 ++ (ByteArray.mk #[124])
 else if k = 12 then (ByteArray.mk #[64, 60]) ++ joinN L 3 ++ (ByteArray.mk #[62])
 else (ByteArray.mk #[60]) ++ joinN L 4 ++ (ByteArray.mk #[62])
mutual
def Tm.txt : Tm → ByteArray
 | .mk k n l => txtOf k n.toNat (txtL l)
def txtL : List Tm → List ByteArray
 | [] => []
 | t :: l => t.txt :: txtL l
end
theorem kidS_txt : ∀ (l : List Tm) (i : Nat) (h : i < l.length), kidS (txtL l) i = l[i].txt
 | t :: l, 0, h => by rw [txtL]; rfl
 | t :: l, i + 1, h => by
  have := kidS_txt l i (by simpa using h)
  rw [txtL]
  exact this
theorem decS_size (n : Nat) : (decS n).size ≤ 2 := by unfold decS; split <;> simp [ByteArray.size]
def StrPost (w : World) (s : ByteArray) (e : Ending) (w' : World) : Prop := e = .returned (.string s) ∧ Below w.heap.size w w'
theorem ba_empty (a : ByteArray) : a ++ ByteArray.mk #[] = a := by
 apply ByteArray.ext
 simp [ByteArray.data_append]
theorem ba_pair (x y : UInt8) : ByteArray.mk #[x] ++ ByteArray.mk #[y] = ByteArray.mk #[x, y] := by
 apply ByteArray.ext
 simp [ByteArray.data_append]
theorem byte_text (m : Nat) (hm : m ≤ 255) (W : World) : (convert 22 9 (.slice (some ⟨W.heap.size, 0, none⟩) 1 1)).run Tryz.prog (W.alloc (.cells #[.int .u8 m] 5)) = .ok (.string (ByteArray.mk #[UInt8.ofNat m])) (W.alloc (.cells #[.int .u8 m] 5)) := by
 have h := run_convert_bytes_back (P := Tryz.prog) (W.alloc (.cells #[.int .u8 m] 5)) 22 9 5 ⟨W.heap.size, 0, none⟩ 1 [UInt8.ofNat m] Tryz.underlying22 Tryz.underlying5 Tryz.underlying9 (fun j hj => by
  have hj0 : j = 0 := by simpa using hj
  subst hj0
  have e : (UInt8.ofNat m).toNat = m := by simp; omega
  simp only [List.getElem_cons_zero, e]
  show (W.alloc _).cell? ⟨W.heap.size, 0, none⟩ = _
  rw [World.cell?_alloc_new]
  rfl)
 exact h
set_option maxRecDepth 100000 in
set_option maxHeartbeats 1600000 in
theorem dec_any (n : Nat) (hn : n ≤ 99) (w : World) : Calls Tryz.prog 126 #[.int .i64 n] w (StrPost w (decS n)) := by
 have HP : Hid (∀ s w', s = decS n → Below w.heap.size w w' → StrPost w (decS n) (.returned (.string s)) w') := tuck fun s w' h hb => by rw [h]; exact ⟨rfl, hb⟩
 generalize StrPost w (decS n) = post at *
 have h1 : decide ((n : Int) < -9223372036854775807) = false := decide_eq_false (by omega)
 have h2 : decide ((n : Int) < 0) = false := decide_eq_false (by omega)
 have HT := tuck byte_text
 go_enter Tryz.func126, Tryz.ntmps126
 go_wp2_with fail
 go_loopw [0, 3] (fun m out wr => ∃ (k : Nat) (o : ByteArray), out = .string o ∧ m = .int .i64 k ∧ k ≤ n ∧ Below w.heap.size w wr ∧ ((k = n ∧ o = ByteArray.mk #[]) ∨ (9 < n ∧ k = n / 10 ∧ o = ByteArray.mk #[UInt8.ofNat (48 + n % 10)]))) (fun m _ _ => (intOf m).toNat)
 case atStart => exact ⟨n, _, rfl, rfl, Nat.le_refl _, Below.refl _ _, Or.inl ⟨rfl, rfl⟩⟩
 case round =>
  obtain ⟨k, o, rfl, rfl, hk, hb, hor⟩ := hrel
  have HB := tuck hb
  have HOR := tuck hor
  clear hb hor
  by_cases h9 : k ≤ 9
  ·have h3 : decide ((9 : Int) < (k : Int)) = false := decide_eq_false (by omega)
   have hcv := HT.out (48 + k) (by omega) wr
   rw [show ((48 + k : Nat) : Int) = 48 + (k : Int) by omega] at hcv
   obtain ⟨c, hc⟩ : ∃ c, c = ByteArray.mk #[UInt8.ofNat (48 + k)] := ⟨_, rfl⟩
   rw [← hc] at hcv
   have hsz : ¬ (9223372036854775807 < c.size + o.size) := by
    have h1 : c.size = 1 := by rw [hc]; rfl
    have h2 : o.size ≤ 1 := by rcases HOR.out with ⟨_, rfl⟩ | ⟨_, _, rfl⟩ <;> simp [ByteArray.size]
    omega
   have HEND : Hid (∀ w', Below w.heap.size w w' → post (.returned (.string (c ++ o))) w') := tuck fun w' hb => HP.out _ w' (by
    rw [hc]
    rcases HOR.out with ⟨rfl, rfl⟩ | ⟨h10, rfl, rfl⟩
    ·rw [ba_empty, decS, if_pos h9]
    ·rw [ba_pair, decS, if_neg (by omega)]) hb
   clear hc
   go_wp2_with fail
   exact HEND.out _ (HB.out.alloc (HB.out.size) _)
  ·have h3 : decide ((9 : Int) < (k : Int)) = true := decide_eq_true (by omega)
   have hcv := HT.out (48 + k % 10) (by omega) wr
   rw [show ((48 + k % 10 : Nat) : Int) = 48 + (k : Int) % 10 by omega] at hcv
   have HKN : Hid (k = n ∧ o = ByteArray.mk #[]) := tuck (by
    rcases HOR.out with h | ⟨h10, rfl, rfl⟩
    ·exact h
    ·omega)
   obtain ⟨c, hc⟩ : ∃ c, c = ByteArray.mk #[UInt8.ofNat (48 + k % 10)] := ⟨_, rfl⟩
   rw [← hc] at hcv
   have hsz : ¬ (9223372036854775807 < c.size + o.size) := by
    have h1 : c.size = 1 := by rw [hc]; rfl
    have h2 : o.size ≤ 1 := by rcases HOR.out with ⟨_, rfl⟩ | ⟨_, _, rfl⟩ <;> simp [ByteArray.size]
    omega
   have HC := tuck hc
   clear HOR hc
   go_wp2_with fail
   go_roundw
   case rel =>
    obtain ⟨rfl, rfl⟩ := HKN.out
    exact ⟨k / 10, _, rfl, by go_num, by omega, HB.out.alloc (HB.out.size) _, Or.inr ⟨by omega, rfl, by rw [HC.out]; exact ba_empty _⟩⟩
   case measure => simp [intOf]; omega
end Go.Proofs.YtlnpebdmekccaaaGreat
namespace Go.Proofs.YtlnpebdmekccaaaGreat
def devC (t : Tm) (l : List Tm) : Tm := if t.redex = 0 then .mk t.kind t.num l else (Tm.mk t.kind t.num l).contr
mutual
noncomputable def Tm.devo : Tm → Option Tm
 | .mk k n l => (devL l).bind fun l' => @ite _ (devC (.mk k n l) l').Valid (Classical.propDecidable _) (some (devC (.mk k n l) l')) none
noncomputable def devL : List Tm → Option (List Tm)
 | [] => some []
 | t :: l => t.devo.bind fun t' => (devL l).map (t' :: ·)
end
theorem Tm.devo_eq (t : Tm) : t.devo = (devL t.kids).bind fun l' => @ite _ (devC t l').Valid (Classical.propDecidable _) (some (devC t l')) none := by
 obtain ⟨k, n, l⟩ := t
 rw [Tm.devo]; rfl
theorem devo_valid {t T : Tm} (h : t.devo = some T) : T.Valid := by
 rw [t.devo_eq] at h
 cases hl : devL t.kids with
 | none => rw [hl] at h; cases h
 | some l' =>
  rw [hl, Option.bind_some] at h
  split at h
  ·rename_i hv; cases h; exact hv
  ·cases h
theorem devL_drop {l : List Tm} {q : Nat} (h : q < l.length) : devL (l.drop q) = (l[q].devo).bind fun t' => (devL (l.drop (q + 1))).map (t' :: ·) := by
 rw [List.drop_eq_getElem_cons h, devL]
theorem devL_length : ∀ {l l' : List Tm}, devL l = some l' → l'.length = l.length
 | [], l', h => by rw [devL] at h; cases h; rfl
 | t :: l, l', h => by
  rw [devL] at h
  cases ht : t.devo with
  | none => rw [ht] at h; cases h
  | some t' =>
   rw [ht, Option.bind_some] at h
   cases hl : devL l with
   | none => rw [hl] at h; cases h
   | some m =>
    rw [hl] at h
    cases h
    simp [devL_length hl]
theorem devL_get : ∀ {l l' : List Tm}, devL l = some l' → ∀ (i : Nat) (h : i < l.length) (h' : i < l'.length), l[i].devo = some l'[i]
 | [], l', h, i, hi, _ => by simp at hi
 | t :: l, l', h, i, hi, hi' => by
  rw [devL] at h
  cases ht : t.devo with
  | none => rw [ht] at h; cases h
  | some t' =>
   rw [ht, Option.bind_some] at h
   cases hl : devL l with
   | none => rw [hl] at h; cases h
   | some m =>
    rw [hl] at h
    cases h
    match i with
    | 0 => simpa using ht
    | i + 1 => simpa using devL_get hl i (by simpa using hi) (by simpa using hi')
theorem devo_kind {t T : Tm} (h0 : t.redex = 0) (h : t.devo = some T) : T.kind = t.kind := by
 rw [t.devo_eq] at h
 cases hl : devL t.kids with
 | none => rw [hl] at h; cases h
 | some l' =>
  rw [hl, Option.bind_some] at h
  split at h
  ·cases h
   unfold devC
   rw [if_pos h0]
   rfl
  ·cases h
theorem dev_redex {t : Tm} (hr : t.rootOk) {l' : List Tm} (hl : devL t.kids = some l') (h : t.redex ≠ 0) : (Tm.mk t.kind t.num l').redex = t.redex := by
 have hm : mainIx t.kind ≠ -1 := fun hm => h (redex_none hm)
 obtain ⟨h1, -⟩ := mainIx_lt hr hm
 have hlen := devL_length hl
 have hg := devL_get hl (mainIx t.kind).toNat h1 (by omega)
 have h0 : (t.kids[(mainIx t.kind).toNat]).redex = 0 := by
  have hk : kidT t (mainIx t.kind).toNat = t.kids[(mainIx t.kind).toNat] := kidT_eq h1
  rw [← hk]
  apply redex_none
  rcases redex_shape hr h with ⟨-, e, -, hm⟩ | ⟨-, e, -, hm⟩ | ⟨-, e, -, hm⟩ | ⟨-, e, -, hm⟩ | ⟨-, e, -, hm⟩ | ⟨-, e, -, hm⟩ <;> rw [e] <;>
   (first | (rw [show (mainIx 5).toNat = 0 by decide, hm]; decide) | (rw [show (mainIx 9).toNat = 3 by decide, hm]; decide) | (rw [show (mainIx 12).toNat = 1 by decide, hm]; decide) | (rw [show (mainIx 15).toNat = 0 by decide, hm]; decide) | (rw [show (mainIx 16).toNat = 0 by decide, hm]; decide))
 have hkd := devo_kind h0 hg
 show redexK t.kind (kidK l' (mainIx t.kind).toNat) = redexK t.kind (kidK t.kids (mainIx t.kind).toNat)
 rw [kidK_eq (by omega), kidK_eq h1, hkd]
def DevOk (t : Tm) : Prop := t.Valid ∧ t.devo.isSome = true
noncomputable def Tm.dev (t : Tm) : Tm := t.devo.getD zeroT
theorem dev_of {t T : Tm} (h : t.devo = some T) : t.dev = T := by unfold Tm.dev; rw [h]; rfl
theorem dev_valid {t : Tm} (h : DevOk t) : t.dev.Valid := by
 obtain ⟨T, hT⟩ := Option.isSome_iff_exists.1 h.2
 rw [dev_of hT]
 exact devo_valid hT
end Go.Proofs.YtlnpebdmekccaaaGreat
