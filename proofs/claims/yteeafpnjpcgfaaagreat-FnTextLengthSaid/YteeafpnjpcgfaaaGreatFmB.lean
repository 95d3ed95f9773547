/-
  impl's formatter: the visitors of the kinds with operands.
-/
import Derived.Test.YteeafpnjpcgfaaaGreatFmA
namespace Go.Proofs.YteeafpnjpcgfaaaGreat
open Go.RowKit Go.Shelf
set_option linter.unusedVariables false
set_option linter.unusedSimpArgs false

set_option maxRecDepth 100000 in
set_option maxHeartbeats 4000000 in
theorem vis_pi (w0 : World) (g : Nat) (t0 : Tm) (at0 : Option Addr) (ct0 : Nat) (ht0 : SlIn w0 0 t0.kids (.slice at0 t0.kids.length ct0)) (hft0 : FmtOk w0 g t0) (t1 : Tm) (at1 : Option Addr) (ct1 : Nat) (ht1 : SlIn w0 0 t1.kids (.slice at1 t1.kids.length ct1)) (hft1 : FmtOk w0 g t1) (W : World) (X : ByteArray) (hW : Below w0.heap.size w0 W) (hF : Fm w0.heap.size g X W) (hsz : X.size + (ByteArray.mk #[40] ++ joinB (ByteArray.mk #[62]) (txtL [t0, t1]) 2 ++ ByteArray.mk #[41]).size ≤ 1099511627776) :
    Calls Tryz.prog 237 #[.pointer (some ⟨g, 0, none⟩), .agg #[.int .i64 t0.kind, .int .i64 t0.num, .slice at0 t0.kids.length ct0], .agg #[.int .i64 t1.kind, .int .i64 t1.num, .slice at1 t1.kids.length ct1]] W (FmPost w0.heap.size g (X ++ (ByteArray.mk #[40] ++ joinB (ByteArray.mk #[62]) (txtL [t0, t1]) 2 ++ ByteArray.mk #[41])) W) := by
  have hB : w0.heap.size ≤ W.heap.size := hW.size
  have hgW : g < W.heap.size := FIs.lt hF
  have HO : OpsAt w0 ((W.alloc (.cells #[.int .i64 t0.kind, .int .i64 t0.num, .slice at0 t0.kids.length ct0] 29)).alloc (.cells #[.int .i64 t1.kind, .int .i64 t1.num, .slice at1 t1.kids.length ct1] 29)).heap.size [t0, t1] (((W.alloc (.cells #[.int .i64 t0.kind, .int .i64 t0.num, .slice at0 t0.kids.length ct0] 29)).alloc (.cells #[.int .i64 t1.kind, .int .i64 t1.num, .slice at1 t1.kids.length ct1] 29)).alloc (.cells #[.int .i64 t0.kind, .int .i64 t0.num, .slice at0 t0.kids.length ct0, .int .i64 t1.kind, .int .i64 t1.num, .slice at1 t1.kids.length ct1] 29)) := by
    refine ⟨#[.int .i64 t0.kind, .int .i64 t0.num, .slice at0 t0.kids.length ct0, .int .i64 t1.kind, .int .i64 t1.num, .slice at1 t1.kids.length ct1], heap_new _ _, ?_⟩
    intro i hi
    match i, hi with
    | 0, _ => exact ⟨_, rfl, rfl, rfl, ht0⟩
    | 1, _ => exact ⟨_, rfl, rfl, rfl, ht1⟩
  have HOK : ∀ (i : Nat) (h : i < ([t0, t1] : List Tm).length), FmtOk w0 g ([t0, t1] : List Tm)[i] := by
    intro i hi
    match i, hi with
    | 0, _ => exact hft0
    | 1, _ => exact hft1
  have HA : FmP w0.heap.size g X W (((W.alloc (.cells #[.int .i64 t0.kind, .int .i64 t0.num, .slice at0 t0.kids.length ct0] 29)).alloc (.cells #[.int .i64 t1.kind, .int .i64 t1.num, .slice at1 t1.kids.length ct1] 29)).alloc (.cells #[.int .i64 t0.kind, .int .i64 t0.num, .slice at0 t0.kids.length ct0, .int .i64 t1.kind, .int .i64 t1.num, .slice at1 t1.kids.length ct1] 29)) := (FmP.alloc (FmP.alloc (FmP.alloc (FmP.refl hF) hB _) (by simp; omega) _) (by simp; omega) _)
  have HBW : Below w0.heap.size w0 (((W.alloc (.cells #[.int .i64 t0.kind, .int .i64 t0.num, .slice at0 t0.kids.length ct0] 29)).alloc (.cells #[.int .i64 t1.kind, .int .i64 t1.num, .slice at1 t1.kids.length ct1] 29)).alloc (.cells #[.int .i64 t0.kind, .int .i64 t0.num, .slice at0 t0.kids.length ct0, .int .i64 t1.kind, .int .i64 t1.num, .slice at1 t1.kids.length ct1] 29)) := (Below.alloc (Below.alloc (Below.alloc hW hB _) (by simp; omega) _) (by simp; omega) _)
  have HC := tuck (write_any w0 g (ByteArray.mk #[40]) (ByteArray.mk #[62]) (ByteArray.mk #[41]) [t0, t1] ((W.alloc (.cells #[.int .i64 t0.kind, .int .i64 t0.num, .slice at0 t0.kids.length ct0] 29)).alloc (.cells #[.int .i64 t1.kind, .int .i64 t1.num, .slice at1 t1.kids.length ct1] 29)).heap.size (((W.alloc (.cells #[.int .i64 t0.kind, .int .i64 t0.num, .slice at0 t0.kids.length ct0] 29)).alloc (.cells #[.int .i64 t1.kind, .int .i64 t1.num, .slice at1 t1.kids.length ct1] 29)).alloc (.cells #[.int .i64 t0.kind, .int .i64 t0.num, .slice at0 t0.kids.length ct0, .int .i64 t1.kind, .int .i64 t1.num, .slice at1 t1.kids.length ct1] 29)) X (by simp) HOK HBW HO (by simp; omega) HA.fm (by simp only [ByteArray.size_append] at hsz; simp only [List.length_cons, List.length_nil, Nat.reduceAdd]; omega))
  have HP : Hid (∀ W', FmP w0.heap.size g (X ++ ByteArray.mk #[40] ++ joinB (ByteArray.mk #[62]) (txtL [t0, t1]) 2 ++ ByteArray.mk #[41]) (((W.alloc (.cells #[.int .i64 t0.kind, .int .i64 t0.num, .slice at0 t0.kids.length ct0] 29)).alloc (.cells #[.int .i64 t1.kind, .int .i64 t1.num, .slice at1 t1.kids.length ct1] 29)).alloc (.cells #[.int .i64 t0.kind, .int .i64 t0.num, .slice at0 t0.kids.length ct0, .int .i64 t1.kind, .int .i64 t1.num, .slice at1 t1.kids.length ct1] 29)) W' → FmPost w0.heap.size g (X ++ (ByteArray.mk #[40] ++ joinB (ByteArray.mk #[62]) (txtL [t0, t1]) 2 ++ ByteArray.mk #[41])) W (.returned (.tuple #[])) W') := tuck fun W' h => ⟨rfl, by
    have h2 := HA.trans h
    simpa only [ByteArray.append_assoc] using h2⟩
  generalize FmPost w0.heap.size g (X ++ (ByteArray.mk #[40] ++ joinB (ByteArray.mk #[62]) (txtL [t0, t1]) 2 ++ ByteArray.mk #[41])) W = post at *
  simp only [List.length_cons, List.length_nil, Nat.reduceAdd, World.size_alloc] at HC
  clear HO HOK HA HBW hF hW hsz ht0 hft0 ht1 hft1
  go_enter Tryz.func237, Tryz.ntmps237
  go_wp2_with fail
  refine HC.out.mono ?_
  rintro e w2 ⟨rfl, hp2⟩
  have HP2 := tuck hp2
  clear hp2 HC
  go_wp2_with fail
  go_end0
  exact HP.out _ HP2.out

set_option maxRecDepth 100000 in
set_option maxHeartbeats 4000000 in
theorem vis_lam (w0 : World) (g : Nat) (t0 : Tm) (at0 : Option Addr) (ct0 : Nat) (ht0 : SlIn w0 0 t0.kids (.slice at0 t0.kids.length ct0)) (hft0 : FmtOk w0 g t0) (t1 : Tm) (at1 : Option Addr) (ct1 : Nat) (ht1 : SlIn w0 0 t1.kids (.slice at1 t1.kids.length ct1)) (hft1 : FmtOk w0 g t1) (W : World) (X : ByteArray) (hW : Below w0.heap.size w0 W) (hF : Fm w0.heap.size g X W) (hsz : X.size + (ByteArray.mk #[91] ++ joinB (ByteArray.mk #[93]) (txtL [t0, t1]) 2 ++ ByteArray.mk #[]).size ≤ 1099511627776) :
    Calls Tryz.prog 236 #[.pointer (some ⟨g, 0, none⟩), .agg #[.int .i64 t0.kind, .int .i64 t0.num, .slice at0 t0.kids.length ct0], .agg #[.int .i64 t1.kind, .int .i64 t1.num, .slice at1 t1.kids.length ct1]] W (FmPost w0.heap.size g (X ++ (ByteArray.mk #[91] ++ joinB (ByteArray.mk #[93]) (txtL [t0, t1]) 2 ++ ByteArray.mk #[])) W) := by
  have hB : w0.heap.size ≤ W.heap.size := hW.size
  have hgW : g < W.heap.size := FIs.lt hF
  have HO : OpsAt w0 ((W.alloc (.cells #[.int .i64 t0.kind, .int .i64 t0.num, .slice at0 t0.kids.length ct0] 29)).alloc (.cells #[.int .i64 t1.kind, .int .i64 t1.num, .slice at1 t1.kids.length ct1] 29)).heap.size [t0, t1] (((W.alloc (.cells #[.int .i64 t0.kind, .int .i64 t0.num, .slice at0 t0.kids.length ct0] 29)).alloc (.cells #[.int .i64 t1.kind, .int .i64 t1.num, .slice at1 t1.kids.length ct1] 29)).alloc (.cells #[.int .i64 t0.kind, .int .i64 t0.num, .slice at0 t0.kids.length ct0, .int .i64 t1.kind, .int .i64 t1.num, .slice at1 t1.kids.length ct1] 29)) := by
    refine ⟨#[.int .i64 t0.kind, .int .i64 t0.num, .slice at0 t0.kids.length ct0, .int .i64 t1.kind, .int .i64 t1.num, .slice at1 t1.kids.length ct1], heap_new _ _, ?_⟩
    intro i hi
    match i, hi with
    | 0, _ => exact ⟨_, rfl, rfl, rfl, ht0⟩
    | 1, _ => exact ⟨_, rfl, rfl, rfl, ht1⟩
  have HOK : ∀ (i : Nat) (h : i < ([t0, t1] : List Tm).length), FmtOk w0 g ([t0, t1] : List Tm)[i] := by
    intro i hi
    match i, hi with
    | 0, _ => exact hft0
    | 1, _ => exact hft1
  have HA : FmP w0.heap.size g X W (((W.alloc (.cells #[.int .i64 t0.kind, .int .i64 t0.num, .slice at0 t0.kids.length ct0] 29)).alloc (.cells #[.int .i64 t1.kind, .int .i64 t1.num, .slice at1 t1.kids.length ct1] 29)).alloc (.cells #[.int .i64 t0.kind, .int .i64 t0.num, .slice at0 t0.kids.length ct0, .int .i64 t1.kind, .int .i64 t1.num, .slice at1 t1.kids.length ct1] 29)) := (FmP.alloc (FmP.alloc (FmP.alloc (FmP.refl hF) hB _) (by simp; omega) _) (by simp; omega) _)
  have HBW : Below w0.heap.size w0 (((W.alloc (.cells #[.int .i64 t0.kind, .int .i64 t0.num, .slice at0 t0.kids.length ct0] 29)).alloc (.cells #[.int .i64 t1.kind, .int .i64 t1.num, .slice at1 t1.kids.length ct1] 29)).alloc (.cells #[.int .i64 t0.kind, .int .i64 t0.num, .slice at0 t0.kids.length ct0, .int .i64 t1.kind, .int .i64 t1.num, .slice at1 t1.kids.length ct1] 29)) := (Below.alloc (Below.alloc (Below.alloc hW hB _) (by simp; omega) _) (by simp; omega) _)
  have HC := tuck (write_any w0 g (ByteArray.mk #[91]) (ByteArray.mk #[93]) (ByteArray.mk #[]) [t0, t1] ((W.alloc (.cells #[.int .i64 t0.kind, .int .i64 t0.num, .slice at0 t0.kids.length ct0] 29)).alloc (.cells #[.int .i64 t1.kind, .int .i64 t1.num, .slice at1 t1.kids.length ct1] 29)).heap.size (((W.alloc (.cells #[.int .i64 t0.kind, .int .i64 t0.num, .slice at0 t0.kids.length ct0] 29)).alloc (.cells #[.int .i64 t1.kind, .int .i64 t1.num, .slice at1 t1.kids.length ct1] 29)).alloc (.cells #[.int .i64 t0.kind, .int .i64 t0.num, .slice at0 t0.kids.length ct0, .int .i64 t1.kind, .int .i64 t1.num, .slice at1 t1.kids.length ct1] 29)) X (by simp) HOK HBW HO (by simp; omega) HA.fm (by simp only [ByteArray.size_append] at hsz; simp only [List.length_cons, List.length_nil, Nat.reduceAdd]; omega))
  have HP : Hid (∀ W', FmP w0.heap.size g (X ++ ByteArray.mk #[91] ++ joinB (ByteArray.mk #[93]) (txtL [t0, t1]) 2 ++ ByteArray.mk #[]) (((W.alloc (.cells #[.int .i64 t0.kind, .int .i64 t0.num, .slice at0 t0.kids.length ct0] 29)).alloc (.cells #[.int .i64 t1.kind, .int .i64 t1.num, .slice at1 t1.kids.length ct1] 29)).alloc (.cells #[.int .i64 t0.kind, .int .i64 t0.num, .slice at0 t0.kids.length ct0, .int .i64 t1.kind, .int .i64 t1.num, .slice at1 t1.kids.length ct1] 29)) W' → FmPost w0.heap.size g (X ++ (ByteArray.mk #[91] ++ joinB (ByteArray.mk #[93]) (txtL [t0, t1]) 2 ++ ByteArray.mk #[])) W (.returned (.tuple #[])) W') := tuck fun W' h => ⟨rfl, by
    have h2 := HA.trans h
    simpa only [ByteArray.append_assoc] using h2⟩
  generalize FmPost w0.heap.size g (X ++ (ByteArray.mk #[91] ++ joinB (ByteArray.mk #[93]) (txtL [t0, t1]) 2 ++ ByteArray.mk #[])) W = post at *
  simp only [List.length_cons, List.length_nil, Nat.reduceAdd, World.size_alloc] at HC
  clear HO HOK HA HBW hF hW hsz ht0 hft0 ht1 hft1
  go_enter Tryz.func236, Tryz.ntmps236
  go_wp2_with fail
  refine HC.out.mono ?_
  rintro e w2 ⟨rfl, hp2⟩
  have HP2 := tuck hp2
  clear hp2 HC
  go_wp2_with fail
  go_end0
  exact HP.out _ HP2.out

set_option maxRecDepth 100000 in
set_option maxHeartbeats 4000000 in
theorem vis_app (w0 : World) (g : Nat) (t0 : Tm) (at0 : Option Addr) (ct0 : Nat) (ht0 : SlIn w0 0 t0.kids (.slice at0 t0.kids.length ct0)) (hft0 : FmtOk w0 g t0) (t1 : Tm) (at1 : Option Addr) (ct1 : Nat) (ht1 : SlIn w0 0 t1.kids (.slice at1 t1.kids.length ct1)) (hft1 : FmtOk w0 g t1) (W : World) (X : ByteArray) (hW : Below w0.heap.size w0 W) (hF : Fm w0.heap.size g X W) (hsz : X.size + (ByteArray.mk #[40] ++ joinB (ByteArray.mk #[32]) (txtL [t0, t1]) 2 ++ ByteArray.mk #[41]).size ≤ 1099511627776) :
    Calls Tryz.prog 156 #[.pointer (some ⟨g, 0, none⟩), .agg #[.int .i64 t0.kind, .int .i64 t0.num, .slice at0 t0.kids.length ct0], .agg #[.int .i64 t1.kind, .int .i64 t1.num, .slice at1 t1.kids.length ct1]] W (FmPost w0.heap.size g (X ++ (ByteArray.mk #[40] ++ joinB (ByteArray.mk #[32]) (txtL [t0, t1]) 2 ++ ByteArray.mk #[41])) W) := by
  have hB : w0.heap.size ≤ W.heap.size := hW.size
  have hgW : g < W.heap.size := FIs.lt hF
  have HO : OpsAt w0 ((W.alloc (.cells #[.int .i64 t0.kind, .int .i64 t0.num, .slice at0 t0.kids.length ct0] 29)).alloc (.cells #[.int .i64 t1.kind, .int .i64 t1.num, .slice at1 t1.kids.length ct1] 29)).heap.size [t0, t1] (((W.alloc (.cells #[.int .i64 t0.kind, .int .i64 t0.num, .slice at0 t0.kids.length ct0] 29)).alloc (.cells #[.int .i64 t1.kind, .int .i64 t1.num, .slice at1 t1.kids.length ct1] 29)).alloc (.cells #[.int .i64 t0.kind, .int .i64 t0.num, .slice at0 t0.kids.length ct0, .int .i64 t1.kind, .int .i64 t1.num, .slice at1 t1.kids.length ct1] 29)) := by
    refine ⟨#[.int .i64 t0.kind, .int .i64 t0.num, .slice at0 t0.kids.length ct0, .int .i64 t1.kind, .int .i64 t1.num, .slice at1 t1.kids.length ct1], heap_new _ _, ?_⟩
    intro i hi
    match i, hi with
    | 0, _ => exact ⟨_, rfl, rfl, rfl, ht0⟩
    | 1, _ => exact ⟨_, rfl, rfl, rfl, ht1⟩
  have HOK : ∀ (i : Nat) (h : i < ([t0, t1] : List Tm).length), FmtOk w0 g ([t0, t1] : List Tm)[i] := by
    intro i hi
    match i, hi with
    | 0, _ => exact hft0
    | 1, _ => exact hft1
  have HA : FmP w0.heap.size g X W (((W.alloc (.cells #[.int .i64 t0.kind, .int .i64 t0.num, .slice at0 t0.kids.length ct0] 29)).alloc (.cells #[.int .i64 t1.kind, .int .i64 t1.num, .slice at1 t1.kids.length ct1] 29)).alloc (.cells #[.int .i64 t0.kind, .int .i64 t0.num, .slice at0 t0.kids.length ct0, .int .i64 t1.kind, .int .i64 t1.num, .slice at1 t1.kids.length ct1] 29)) := (FmP.alloc (FmP.alloc (FmP.alloc (FmP.refl hF) hB _) (by simp; omega) _) (by simp; omega) _)
  have HBW : Below w0.heap.size w0 (((W.alloc (.cells #[.int .i64 t0.kind, .int .i64 t0.num, .slice at0 t0.kids.length ct0] 29)).alloc (.cells #[.int .i64 t1.kind, .int .i64 t1.num, .slice at1 t1.kids.length ct1] 29)).alloc (.cells #[.int .i64 t0.kind, .int .i64 t0.num, .slice at0 t0.kids.length ct0, .int .i64 t1.kind, .int .i64 t1.num, .slice at1 t1.kids.length ct1] 29)) := (Below.alloc (Below.alloc (Below.alloc hW hB _) (by simp; omega) _) (by simp; omega) _)
  have HC := tuck (write_any w0 g (ByteArray.mk #[40]) (ByteArray.mk #[32]) (ByteArray.mk #[41]) [t0, t1] ((W.alloc (.cells #[.int .i64 t0.kind, .int .i64 t0.num, .slice at0 t0.kids.length ct0] 29)).alloc (.cells #[.int .i64 t1.kind, .int .i64 t1.num, .slice at1 t1.kids.length ct1] 29)).heap.size (((W.alloc (.cells #[.int .i64 t0.kind, .int .i64 t0.num, .slice at0 t0.kids.length ct0] 29)).alloc (.cells #[.int .i64 t1.kind, .int .i64 t1.num, .slice at1 t1.kids.length ct1] 29)).alloc (.cells #[.int .i64 t0.kind, .int .i64 t0.num, .slice at0 t0.kids.length ct0, .int .i64 t1.kind, .int .i64 t1.num, .slice at1 t1.kids.length ct1] 29)) X (by simp) HOK HBW HO (by simp; omega) HA.fm (by simp only [ByteArray.size_append] at hsz; simp only [List.length_cons, List.length_nil, Nat.reduceAdd]; omega))
  have HP : Hid (∀ W', FmP w0.heap.size g (X ++ ByteArray.mk #[40] ++ joinB (ByteArray.mk #[32]) (txtL [t0, t1]) 2 ++ ByteArray.mk #[41]) (((W.alloc (.cells #[.int .i64 t0.kind, .int .i64 t0.num, .slice at0 t0.kids.length ct0] 29)).alloc (.cells #[.int .i64 t1.kind, .int .i64 t1.num, .slice at1 t1.kids.length ct1] 29)).alloc (.cells #[.int .i64 t0.kind, .int .i64 t0.num, .slice at0 t0.kids.length ct0, .int .i64 t1.kind, .int .i64 t1.num, .slice at1 t1.kids.length ct1] 29)) W' → FmPost w0.heap.size g (X ++ (ByteArray.mk #[40] ++ joinB (ByteArray.mk #[32]) (txtL [t0, t1]) 2 ++ ByteArray.mk #[41])) W (.returned (.tuple #[])) W') := tuck fun W' h => ⟨rfl, by
    have h2 := HA.trans h
    simpa only [ByteArray.append_assoc] using h2⟩
  generalize FmPost w0.heap.size g (X ++ (ByteArray.mk #[40] ++ joinB (ByteArray.mk #[32]) (txtL [t0, t1]) 2 ++ ByteArray.mk #[41])) W = post at *
  simp only [List.length_cons, List.length_nil, Nat.reduceAdd, World.size_alloc] at HC
  clear HO HOK HA HBW hF hW hsz ht0 hft0 ht1 hft1
  go_enter Tryz.func156, Tryz.ntmps156
  go_wp2_with fail
  refine HC.out.mono ?_
  rintro e w2 ⟨rfl, hp2⟩
  have HP2 := tuck hp2
  clear hp2 HC
  go_wp2_with fail
  go_end0
  exact HP.out _ HP2.out

set_option maxRecDepth 100000 in
set_option maxHeartbeats 4000000 in
theorem vis_succ (w0 : World) (g : Nat) (t0 : Tm) (at0 : Option Addr) (ct0 : Nat) (ht0 : SlIn w0 0 t0.kids (.slice at0 t0.kids.length ct0)) (hft0 : FmtOk w0 g t0) (W : World) (X : ByteArray) (hW : Below w0.heap.size w0 W) (hF : Fm w0.heap.size g X W) (hsz : X.size + (ByteArray.mk #[43] ++ joinB (ByteArray.mk #[]) (txtL [t0]) 1 ++ ByteArray.mk #[]).size ≤ 1099511627776) :
    Calls Tryz.prog 168 #[.pointer (some ⟨g, 0, none⟩), .agg #[.int .i64 t0.kind, .int .i64 t0.num, .slice at0 t0.kids.length ct0]] W (FmPost w0.heap.size g (X ++ (ByteArray.mk #[43] ++ joinB (ByteArray.mk #[]) (txtL [t0]) 1 ++ ByteArray.mk #[])) W) := by
  have hB : w0.heap.size ≤ W.heap.size := hW.size
  have hgW : g < W.heap.size := FIs.lt hF
  have HO : OpsAt w0 (W.alloc (.cells #[.int .i64 t0.kind, .int .i64 t0.num, .slice at0 t0.kids.length ct0] 29)).heap.size [t0] ((W.alloc (.cells #[.int .i64 t0.kind, .int .i64 t0.num, .slice at0 t0.kids.length ct0] 29)).alloc (.cells #[.int .i64 t0.kind, .int .i64 t0.num, .slice at0 t0.kids.length ct0] 29)) := by
    refine ⟨#[.int .i64 t0.kind, .int .i64 t0.num, .slice at0 t0.kids.length ct0], heap_new _ _, ?_⟩
    intro i hi
    match i, hi with
    | 0, _ => exact ⟨_, rfl, rfl, rfl, ht0⟩
  have HOK : ∀ (i : Nat) (h : i < ([t0] : List Tm).length), FmtOk w0 g ([t0] : List Tm)[i] := by
    intro i hi
    match i, hi with
    | 0, _ => exact hft0
  have HA : FmP w0.heap.size g X W ((W.alloc (.cells #[.int .i64 t0.kind, .int .i64 t0.num, .slice at0 t0.kids.length ct0] 29)).alloc (.cells #[.int .i64 t0.kind, .int .i64 t0.num, .slice at0 t0.kids.length ct0] 29)) := (FmP.alloc (FmP.alloc (FmP.refl hF) hB _) (by simp; omega) _)
  have HBW : Below w0.heap.size w0 ((W.alloc (.cells #[.int .i64 t0.kind, .int .i64 t0.num, .slice at0 t0.kids.length ct0] 29)).alloc (.cells #[.int .i64 t0.kind, .int .i64 t0.num, .slice at0 t0.kids.length ct0] 29)) := (Below.alloc (Below.alloc hW hB _) (by simp; omega) _)
  have HC := tuck (write_any w0 g (ByteArray.mk #[43]) (ByteArray.mk #[]) (ByteArray.mk #[]) [t0] (W.alloc (.cells #[.int .i64 t0.kind, .int .i64 t0.num, .slice at0 t0.kids.length ct0] 29)).heap.size ((W.alloc (.cells #[.int .i64 t0.kind, .int .i64 t0.num, .slice at0 t0.kids.length ct0] 29)).alloc (.cells #[.int .i64 t0.kind, .int .i64 t0.num, .slice at0 t0.kids.length ct0] 29)) X (by simp) HOK HBW HO (by simp; omega) HA.fm (by simp only [ByteArray.size_append] at hsz; simp only [List.length_cons, List.length_nil, Nat.reduceAdd]; omega))
  have HP : Hid (∀ W', FmP w0.heap.size g (X ++ ByteArray.mk #[43] ++ joinB (ByteArray.mk #[]) (txtL [t0]) 1 ++ ByteArray.mk #[]) ((W.alloc (.cells #[.int .i64 t0.kind, .int .i64 t0.num, .slice at0 t0.kids.length ct0] 29)).alloc (.cells #[.int .i64 t0.kind, .int .i64 t0.num, .slice at0 t0.kids.length ct0] 29)) W' → FmPost w0.heap.size g (X ++ (ByteArray.mk #[43] ++ joinB (ByteArray.mk #[]) (txtL [t0]) 1 ++ ByteArray.mk #[])) W (.returned (.tuple #[])) W') := tuck fun W' h => ⟨rfl, by
    have h2 := HA.trans h
    simpa only [ByteArray.append_assoc] using h2⟩
  generalize FmPost w0.heap.size g (X ++ (ByteArray.mk #[43] ++ joinB (ByteArray.mk #[]) (txtL [t0]) 1 ++ ByteArray.mk #[])) W = post at *
  simp only [List.length_cons, List.length_nil, Nat.reduceAdd, World.size_alloc] at HC
  clear HO HOK HA HBW hF hW hsz ht0 hft0
  go_enter Tryz.func168, Tryz.ntmps168
  go_wp2_with fail
  refine HC.out.mono ?_
  rintro e w2 ⟨rfl, hp2⟩
  have HP2 := tuck hp2
  clear hp2 HC
  go_wp2_with fail
  go_end0
  exact HP.out _ HP2.out

set_option maxRecDepth 100000 in
set_option maxHeartbeats 4000000 in
theorem vis_elim (w0 : World) (g : Nat) (t0 : Tm) (at0 : Option Addr) (ct0 : Nat) (ht0 : SlIn w0 0 t0.kids (.slice at0 t0.kids.length ct0)) (hft0 : FmtOk w0 g t0) (t1 : Tm) (at1 : Option Addr) (ct1 : Nat) (ht1 : SlIn w0 0 t1.kids (.slice at1 t1.kids.length ct1)) (hft1 : FmtOk w0 g t1) (t2 : Tm) (at2 : Option Addr) (ct2 : Nat) (ht2 : SlIn w0 0 t2.kids (.slice at2 t2.kids.length ct2)) (hft2 : FmtOk w0 g t2) (t3 : Tm) (at3 : Option Addr) (ct3 : Nat) (ht3 : SlIn w0 0 t3.kids (.slice at3 t3.kids.length ct3)) (hft3 : FmtOk w0 g t3) (W : World) (X : ByteArray) (hW : Below w0.heap.size w0 W) (hF : Fm w0.heap.size g X W) (hsz : X.size + (ByteArray.mk #[60] ++ joinB (ByteArray.mk #[44]) (txtL [t0, t1, t2, t3]) 4 ++ ByteArray.mk #[62]).size ≤ 1099511627776) :
    Calls Tryz.prog 157 #[.pointer (some ⟨g, 0, none⟩), .agg #[.int .i64 t0.kind, .int .i64 t0.num, .slice at0 t0.kids.length ct0], .agg #[.int .i64 t1.kind, .int .i64 t1.num, .slice at1 t1.kids.length ct1], .agg #[.int .i64 t2.kind, .int .i64 t2.num, .slice at2 t2.kids.length ct2], .agg #[.int .i64 t3.kind, .int .i64 t3.num, .slice at3 t3.kids.length ct3]] W (FmPost w0.heap.size g (X ++ (ByteArray.mk #[60] ++ joinB (ByteArray.mk #[44]) (txtL [t0, t1, t2, t3]) 4 ++ ByteArray.mk #[62])) W) := by
  have hB : w0.heap.size ≤ W.heap.size := hW.size
  have hgW : g < W.heap.size := FIs.lt hF
  have HO : OpsAt w0 ((((W.alloc (.cells #[.int .i64 t0.kind, .int .i64 t0.num, .slice at0 t0.kids.length ct0] 29)).alloc (.cells #[.int .i64 t1.kind, .int .i64 t1.num, .slice at1 t1.kids.length ct1] 29)).alloc (.cells #[.int .i64 t2.kind, .int .i64 t2.num, .slice at2 t2.kids.length ct2] 29)).alloc (.cells #[.int .i64 t3.kind, .int .i64 t3.num, .slice at3 t3.kids.length ct3] 29)).heap.size [t0, t1, t2, t3] (((((W.alloc (.cells #[.int .i64 t0.kind, .int .i64 t0.num, .slice at0 t0.kids.length ct0] 29)).alloc (.cells #[.int .i64 t1.kind, .int .i64 t1.num, .slice at1 t1.kids.length ct1] 29)).alloc (.cells #[.int .i64 t2.kind, .int .i64 t2.num, .slice at2 t2.kids.length ct2] 29)).alloc (.cells #[.int .i64 t3.kind, .int .i64 t3.num, .slice at3 t3.kids.length ct3] 29)).alloc (.cells #[.int .i64 t0.kind, .int .i64 t0.num, .slice at0 t0.kids.length ct0, .int .i64 t1.kind, .int .i64 t1.num, .slice at1 t1.kids.length ct1, .int .i64 t2.kind, .int .i64 t2.num, .slice at2 t2.kids.length ct2, .int .i64 t3.kind, .int .i64 t3.num, .slice at3 t3.kids.length ct3] 29)) := by
    refine ⟨#[.int .i64 t0.kind, .int .i64 t0.num, .slice at0 t0.kids.length ct0, .int .i64 t1.kind, .int .i64 t1.num, .slice at1 t1.kids.length ct1, .int .i64 t2.kind, .int .i64 t2.num, .slice at2 t2.kids.length ct2, .int .i64 t3.kind, .int .i64 t3.num, .slice at3 t3.kids.length ct3], heap_new _ _, ?_⟩
    intro i hi
    match i, hi with
    | 0, _ => exact ⟨_, rfl, rfl, rfl, ht0⟩
    | 1, _ => exact ⟨_, rfl, rfl, rfl, ht1⟩
    | 2, _ => exact ⟨_, rfl, rfl, rfl, ht2⟩
    | 3, _ => exact ⟨_, rfl, rfl, rfl, ht3⟩
  have HOK : ∀ (i : Nat) (h : i < ([t0, t1, t2, t3] : List Tm).length), FmtOk w0 g ([t0, t1, t2, t3] : List Tm)[i] := by
    intro i hi
    match i, hi with
    | 0, _ => exact hft0
    | 1, _ => exact hft1
    | 2, _ => exact hft2
    | 3, _ => exact hft3
  have HA : FmP w0.heap.size g X W (((((W.alloc (.cells #[.int .i64 t0.kind, .int .i64 t0.num, .slice at0 t0.kids.length ct0] 29)).alloc (.cells #[.int .i64 t1.kind, .int .i64 t1.num, .slice at1 t1.kids.length ct1] 29)).alloc (.cells #[.int .i64 t2.kind, .int .i64 t2.num, .slice at2 t2.kids.length ct2] 29)).alloc (.cells #[.int .i64 t3.kind, .int .i64 t3.num, .slice at3 t3.kids.length ct3] 29)).alloc (.cells #[.int .i64 t0.kind, .int .i64 t0.num, .slice at0 t0.kids.length ct0, .int .i64 t1.kind, .int .i64 t1.num, .slice at1 t1.kids.length ct1, .int .i64 t2.kind, .int .i64 t2.num, .slice at2 t2.kids.length ct2, .int .i64 t3.kind, .int .i64 t3.num, .slice at3 t3.kids.length ct3] 29)) := (FmP.alloc (FmP.alloc (FmP.alloc (FmP.alloc (FmP.alloc (FmP.refl hF) hB _) (by simp; omega) _) (by simp; omega) _) (by simp; omega) _) (by simp; omega) _)
  have HBW : Below w0.heap.size w0 (((((W.alloc (.cells #[.int .i64 t0.kind, .int .i64 t0.num, .slice at0 t0.kids.length ct0] 29)).alloc (.cells #[.int .i64 t1.kind, .int .i64 t1.num, .slice at1 t1.kids.length ct1] 29)).alloc (.cells #[.int .i64 t2.kind, .int .i64 t2.num, .slice at2 t2.kids.length ct2] 29)).alloc (.cells #[.int .i64 t3.kind, .int .i64 t3.num, .slice at3 t3.kids.length ct3] 29)).alloc (.cells #[.int .i64 t0.kind, .int .i64 t0.num, .slice at0 t0.kids.length ct0, .int .i64 t1.kind, .int .i64 t1.num, .slice at1 t1.kids.length ct1, .int .i64 t2.kind, .int .i64 t2.num, .slice at2 t2.kids.length ct2, .int .i64 t3.kind, .int .i64 t3.num, .slice at3 t3.kids.length ct3] 29)) := (Below.alloc (Below.alloc (Below.alloc (Below.alloc (Below.alloc hW hB _) (by simp; omega) _) (by simp; omega) _) (by simp; omega) _) (by simp; omega) _)
  have HC := tuck (write_any w0 g (ByteArray.mk #[60]) (ByteArray.mk #[44]) (ByteArray.mk #[62]) [t0, t1, t2, t3] ((((W.alloc (.cells #[.int .i64 t0.kind, .int .i64 t0.num, .slice at0 t0.kids.length ct0] 29)).alloc (.cells #[.int .i64 t1.kind, .int .i64 t1.num, .slice at1 t1.kids.length ct1] 29)).alloc (.cells #[.int .i64 t2.kind, .int .i64 t2.num, .slice at2 t2.kids.length ct2] 29)).alloc (.cells #[.int .i64 t3.kind, .int .i64 t3.num, .slice at3 t3.kids.length ct3] 29)).heap.size (((((W.alloc (.cells #[.int .i64 t0.kind, .int .i64 t0.num, .slice at0 t0.kids.length ct0] 29)).alloc (.cells #[.int .i64 t1.kind, .int .i64 t1.num, .slice at1 t1.kids.length ct1] 29)).alloc (.cells #[.int .i64 t2.kind, .int .i64 t2.num, .slice at2 t2.kids.length ct2] 29)).alloc (.cells #[.int .i64 t3.kind, .int .i64 t3.num, .slice at3 t3.kids.length ct3] 29)).alloc (.cells #[.int .i64 t0.kind, .int .i64 t0.num, .slice at0 t0.kids.length ct0, .int .i64 t1.kind, .int .i64 t1.num, .slice at1 t1.kids.length ct1, .int .i64 t2.kind, .int .i64 t2.num, .slice at2 t2.kids.length ct2, .int .i64 t3.kind, .int .i64 t3.num, .slice at3 t3.kids.length ct3] 29)) X (by simp) HOK HBW HO (by simp; omega) HA.fm (by simp only [ByteArray.size_append] at hsz; simp only [List.length_cons, List.length_nil, Nat.reduceAdd]; omega))
  have HP : Hid (∀ W', FmP w0.heap.size g (X ++ ByteArray.mk #[60] ++ joinB (ByteArray.mk #[44]) (txtL [t0, t1, t2, t3]) 4 ++ ByteArray.mk #[62]) (((((W.alloc (.cells #[.int .i64 t0.kind, .int .i64 t0.num, .slice at0 t0.kids.length ct0] 29)).alloc (.cells #[.int .i64 t1.kind, .int .i64 t1.num, .slice at1 t1.kids.length ct1] 29)).alloc (.cells #[.int .i64 t2.kind, .int .i64 t2.num, .slice at2 t2.kids.length ct2] 29)).alloc (.cells #[.int .i64 t3.kind, .int .i64 t3.num, .slice at3 t3.kids.length ct3] 29)).alloc (.cells #[.int .i64 t0.kind, .int .i64 t0.num, .slice at0 t0.kids.length ct0, .int .i64 t1.kind, .int .i64 t1.num, .slice at1 t1.kids.length ct1, .int .i64 t2.kind, .int .i64 t2.num, .slice at2 t2.kids.length ct2, .int .i64 t3.kind, .int .i64 t3.num, .slice at3 t3.kids.length ct3] 29)) W' → FmPost w0.heap.size g (X ++ (ByteArray.mk #[60] ++ joinB (ByteArray.mk #[44]) (txtL [t0, t1, t2, t3]) 4 ++ ByteArray.mk #[62])) W (.returned (.tuple #[])) W') := tuck fun W' h => ⟨rfl, by
    have h2 := HA.trans h
    simpa only [ByteArray.append_assoc] using h2⟩
  generalize FmPost w0.heap.size g (X ++ (ByteArray.mk #[60] ++ joinB (ByteArray.mk #[44]) (txtL [t0, t1, t2, t3]) 4 ++ ByteArray.mk #[62])) W = post at *
  simp only [List.length_cons, List.length_nil, Nat.reduceAdd, World.size_alloc] at HC
  clear HO HOK HA HBW hF hW hsz ht0 hft0 ht1 hft1 ht2 hft2 ht3 hft3
  go_enter Tryz.func157, Tryz.ntmps157
  go_wp2_with fail
  refine HC.out.mono ?_
  rintro e w2 ⟨rfl, hp2⟩
  have HP2 := tuck hp2
  clear hp2 HC
  go_wp2_with fail
  go_end0
  exact HP.out _ HP2.out

set_option maxRecDepth 100000 in
set_option maxHeartbeats 4000000 in
theorem vis_id (w0 : World) (g : Nat) (t0 : Tm) (at0 : Option Addr) (ct0 : Nat) (ht0 : SlIn w0 0 t0.kids (.slice at0 t0.kids.length ct0)) (hft0 : FmtOk w0 g t0) (t1 : Tm) (at1 : Option Addr) (ct1 : Nat) (ht1 : SlIn w0 0 t1.kids (.slice at1 t1.kids.length ct1)) (hft1 : FmtOk w0 g t1) (t2 : Tm) (at2 : Option Addr) (ct2 : Nat) (ht2 : SlIn w0 0 t2.kids (.slice at2 t2.kids.length ct2)) (hft2 : FmtOk w0 g t2) (W : World) (X : ByteArray) (hW : Below w0.heap.size w0 W) (hF : Fm w0.heap.size g X W) (hsz : X.size + (ByteArray.mk #[123] ++ joinB (ByteArray.mk #[44]) (txtL [t0, t1, t2]) 3 ++ ByteArray.mk #[125]).size ≤ 1099511627776) :
    Calls Tryz.prog 159 #[.pointer (some ⟨g, 0, none⟩), .agg #[.int .i64 t0.kind, .int .i64 t0.num, .slice at0 t0.kids.length ct0], .agg #[.int .i64 t1.kind, .int .i64 t1.num, .slice at1 t1.kids.length ct1], .agg #[.int .i64 t2.kind, .int .i64 t2.num, .slice at2 t2.kids.length ct2]] W (FmPost w0.heap.size g (X ++ (ByteArray.mk #[123] ++ joinB (ByteArray.mk #[44]) (txtL [t0, t1, t2]) 3 ++ ByteArray.mk #[125])) W) := by
  have hB : w0.heap.size ≤ W.heap.size := hW.size
  have hgW : g < W.heap.size := FIs.lt hF
  have HO : OpsAt w0 (((W.alloc (.cells #[.int .i64 t0.kind, .int .i64 t0.num, .slice at0 t0.kids.length ct0] 29)).alloc (.cells #[.int .i64 t1.kind, .int .i64 t1.num, .slice at1 t1.kids.length ct1] 29)).alloc (.cells #[.int .i64 t2.kind, .int .i64 t2.num, .slice at2 t2.kids.length ct2] 29)).heap.size [t0, t1, t2] ((((W.alloc (.cells #[.int .i64 t0.kind, .int .i64 t0.num, .slice at0 t0.kids.length ct0] 29)).alloc (.cells #[.int .i64 t1.kind, .int .i64 t1.num, .slice at1 t1.kids.length ct1] 29)).alloc (.cells #[.int .i64 t2.kind, .int .i64 t2.num, .slice at2 t2.kids.length ct2] 29)).alloc (.cells #[.int .i64 t0.kind, .int .i64 t0.num, .slice at0 t0.kids.length ct0, .int .i64 t1.kind, .int .i64 t1.num, .slice at1 t1.kids.length ct1, .int .i64 t2.kind, .int .i64 t2.num, .slice at2 t2.kids.length ct2] 29)) := by
    refine ⟨#[.int .i64 t0.kind, .int .i64 t0.num, .slice at0 t0.kids.length ct0, .int .i64 t1.kind, .int .i64 t1.num, .slice at1 t1.kids.length ct1, .int .i64 t2.kind, .int .i64 t2.num, .slice at2 t2.kids.length ct2], heap_new _ _, ?_⟩
    intro i hi
    match i, hi with
    | 0, _ => exact ⟨_, rfl, rfl, rfl, ht0⟩
    | 1, _ => exact ⟨_, rfl, rfl, rfl, ht1⟩
    | 2, _ => exact ⟨_, rfl, rfl, rfl, ht2⟩
  have HOK : ∀ (i : Nat) (h : i < ([t0, t1, t2] : List Tm).length), FmtOk w0 g ([t0, t1, t2] : List Tm)[i] := by
    intro i hi
    match i, hi with
    | 0, _ => exact hft0
    | 1, _ => exact hft1
    | 2, _ => exact hft2
  have HA : FmP w0.heap.size g X W ((((W.alloc (.cells #[.int .i64 t0.kind, .int .i64 t0.num, .slice at0 t0.kids.length ct0] 29)).alloc (.cells #[.int .i64 t1.kind, .int .i64 t1.num, .slice at1 t1.kids.length ct1] 29)).alloc (.cells #[.int .i64 t2.kind, .int .i64 t2.num, .slice at2 t2.kids.length ct2] 29)).alloc (.cells #[.int .i64 t0.kind, .int .i64 t0.num, .slice at0 t0.kids.length ct0, .int .i64 t1.kind, .int .i64 t1.num, .slice at1 t1.kids.length ct1, .int .i64 t2.kind, .int .i64 t2.num, .slice at2 t2.kids.length ct2] 29)) := (FmP.alloc (FmP.alloc (FmP.alloc (FmP.alloc (FmP.refl hF) hB _) (by simp; omega) _) (by simp; omega) _) (by simp; omega) _)
  have HBW : Below w0.heap.size w0 ((((W.alloc (.cells #[.int .i64 t0.kind, .int .i64 t0.num, .slice at0 t0.kids.length ct0] 29)).alloc (.cells #[.int .i64 t1.kind, .int .i64 t1.num, .slice at1 t1.kids.length ct1] 29)).alloc (.cells #[.int .i64 t2.kind, .int .i64 t2.num, .slice at2 t2.kids.length ct2] 29)).alloc (.cells #[.int .i64 t0.kind, .int .i64 t0.num, .slice at0 t0.kids.length ct0, .int .i64 t1.kind, .int .i64 t1.num, .slice at1 t1.kids.length ct1, .int .i64 t2.kind, .int .i64 t2.num, .slice at2 t2.kids.length ct2] 29)) := (Below.alloc (Below.alloc (Below.alloc (Below.alloc hW hB _) (by simp; omega) _) (by simp; omega) _) (by simp; omega) _)
  have HC := tuck (write_any w0 g (ByteArray.mk #[123]) (ByteArray.mk #[44]) (ByteArray.mk #[125]) [t0, t1, t2] (((W.alloc (.cells #[.int .i64 t0.kind, .int .i64 t0.num, .slice at0 t0.kids.length ct0] 29)).alloc (.cells #[.int .i64 t1.kind, .int .i64 t1.num, .slice at1 t1.kids.length ct1] 29)).alloc (.cells #[.int .i64 t2.kind, .int .i64 t2.num, .slice at2 t2.kids.length ct2] 29)).heap.size ((((W.alloc (.cells #[.int .i64 t0.kind, .int .i64 t0.num, .slice at0 t0.kids.length ct0] 29)).alloc (.cells #[.int .i64 t1.kind, .int .i64 t1.num, .slice at1 t1.kids.length ct1] 29)).alloc (.cells #[.int .i64 t2.kind, .int .i64 t2.num, .slice at2 t2.kids.length ct2] 29)).alloc (.cells #[.int .i64 t0.kind, .int .i64 t0.num, .slice at0 t0.kids.length ct0, .int .i64 t1.kind, .int .i64 t1.num, .slice at1 t1.kids.length ct1, .int .i64 t2.kind, .int .i64 t2.num, .slice at2 t2.kids.length ct2] 29)) X (by simp) HOK HBW HO (by simp; omega) HA.fm (by simp only [ByteArray.size_append] at hsz; simp only [List.length_cons, List.length_nil, Nat.reduceAdd]; omega))
  have HP : Hid (∀ W', FmP w0.heap.size g (X ++ ByteArray.mk #[123] ++ joinB (ByteArray.mk #[44]) (txtL [t0, t1, t2]) 3 ++ ByteArray.mk #[125]) ((((W.alloc (.cells #[.int .i64 t0.kind, .int .i64 t0.num, .slice at0 t0.kids.length ct0] 29)).alloc (.cells #[.int .i64 t1.kind, .int .i64 t1.num, .slice at1 t1.kids.length ct1] 29)).alloc (.cells #[.int .i64 t2.kind, .int .i64 t2.num, .slice at2 t2.kids.length ct2] 29)).alloc (.cells #[.int .i64 t0.kind, .int .i64 t0.num, .slice at0 t0.kids.length ct0, .int .i64 t1.kind, .int .i64 t1.num, .slice at1 t1.kids.length ct1, .int .i64 t2.kind, .int .i64 t2.num, .slice at2 t2.kids.length ct2] 29)) W' → FmPost w0.heap.size g (X ++ (ByteArray.mk #[123] ++ joinB (ByteArray.mk #[44]) (txtL [t0, t1, t2]) 3 ++ ByteArray.mk #[125])) W (.returned (.tuple #[])) W') := tuck fun W' h => ⟨rfl, by
    have h2 := HA.trans h
    simpa only [ByteArray.append_assoc] using h2⟩
  generalize FmPost w0.heap.size g (X ++ (ByteArray.mk #[123] ++ joinB (ByteArray.mk #[44]) (txtL [t0, t1, t2]) 3 ++ ByteArray.mk #[125])) W = post at *
  simp only [List.length_cons, List.length_nil, Nat.reduceAdd, World.size_alloc] at HC
  clear HO HOK HA HBW hF hW hsz ht0 hft0 ht1 hft1 ht2 hft2
  go_enter Tryz.func159, Tryz.ntmps159
  go_wp2_with fail
  refine HC.out.mono ?_
  rintro e w2 ⟨rfl, hp2⟩
  have HP2 := tuck hp2
  clear hp2 HC
  go_wp2_with fail
  go_end0
  exact HP.out _ HP2.out

set_option maxRecDepth 100000 in
set_option maxHeartbeats 4000000 in
theorem vis_refl (w0 : World) (g : Nat) (t0 : Tm) (at0 : Option Addr) (ct0 : Nat) (ht0 : SlIn w0 0 t0.kids (.slice at0 t0.kids.length ct0)) (hft0 : FmtOk w0 g t0) (W : World) (X : ByteArray) (hW : Below w0.heap.size w0 W) (hF : Fm w0.heap.size g X W) (hsz : X.size + (ByteArray.mk #[33] ++ joinB (ByteArray.mk #[]) (txtL [t0]) 1 ++ ByteArray.mk #[]).size ≤ 1099511627776) :
    Calls Tryz.prog 164 #[.pointer (some ⟨g, 0, none⟩), .agg #[.int .i64 t0.kind, .int .i64 t0.num, .slice at0 t0.kids.length ct0]] W (FmPost w0.heap.size g (X ++ (ByteArray.mk #[33] ++ joinB (ByteArray.mk #[]) (txtL [t0]) 1 ++ ByteArray.mk #[])) W) := by
  have hB : w0.heap.size ≤ W.heap.size := hW.size
  have hgW : g < W.heap.size := FIs.lt hF
  have HO : OpsAt w0 (W.alloc (.cells #[.int .i64 t0.kind, .int .i64 t0.num, .slice at0 t0.kids.length ct0] 29)).heap.size [t0] ((W.alloc (.cells #[.int .i64 t0.kind, .int .i64 t0.num, .slice at0 t0.kids.length ct0] 29)).alloc (.cells #[.int .i64 t0.kind, .int .i64 t0.num, .slice at0 t0.kids.length ct0] 29)) := by
    refine ⟨#[.int .i64 t0.kind, .int .i64 t0.num, .slice at0 t0.kids.length ct0], heap_new _ _, ?_⟩
    intro i hi
    match i, hi with
    | 0, _ => exact ⟨_, rfl, rfl, rfl, ht0⟩
  have HOK : ∀ (i : Nat) (h : i < ([t0] : List Tm).length), FmtOk w0 g ([t0] : List Tm)[i] := by
    intro i hi
    match i, hi with
    | 0, _ => exact hft0
  have HA : FmP w0.heap.size g X W ((W.alloc (.cells #[.int .i64 t0.kind, .int .i64 t0.num, .slice at0 t0.kids.length ct0] 29)).alloc (.cells #[.int .i64 t0.kind, .int .i64 t0.num, .slice at0 t0.kids.length ct0] 29)) := (FmP.alloc (FmP.alloc (FmP.refl hF) hB _) (by simp; omega) _)
  have HBW : Below w0.heap.size w0 ((W.alloc (.cells #[.int .i64 t0.kind, .int .i64 t0.num, .slice at0 t0.kids.length ct0] 29)).alloc (.cells #[.int .i64 t0.kind, .int .i64 t0.num, .slice at0 t0.kids.length ct0] 29)) := (Below.alloc (Below.alloc hW hB _) (by simp; omega) _)
  have HC := tuck (write_any w0 g (ByteArray.mk #[33]) (ByteArray.mk #[]) (ByteArray.mk #[]) [t0] (W.alloc (.cells #[.int .i64 t0.kind, .int .i64 t0.num, .slice at0 t0.kids.length ct0] 29)).heap.size ((W.alloc (.cells #[.int .i64 t0.kind, .int .i64 t0.num, .slice at0 t0.kids.length ct0] 29)).alloc (.cells #[.int .i64 t0.kind, .int .i64 t0.num, .slice at0 t0.kids.length ct0] 29)) X (by simp) HOK HBW HO (by simp; omega) HA.fm (by simp only [ByteArray.size_append] at hsz; simp only [List.length_cons, List.length_nil, Nat.reduceAdd]; omega))
  have HP : Hid (∀ W', FmP w0.heap.size g (X ++ ByteArray.mk #[33] ++ joinB (ByteArray.mk #[]) (txtL [t0]) 1 ++ ByteArray.mk #[]) ((W.alloc (.cells #[.int .i64 t0.kind, .int .i64 t0.num, .slice at0 t0.kids.length ct0] 29)).alloc (.cells #[.int .i64 t0.kind, .int .i64 t0.num, .slice at0 t0.kids.length ct0] 29)) W' → FmPost w0.heap.size g (X ++ (ByteArray.mk #[33] ++ joinB (ByteArray.mk #[]) (txtL [t0]) 1 ++ ByteArray.mk #[])) W (.returned (.tuple #[])) W') := tuck fun W' h => ⟨rfl, by
    have h2 := HA.trans h
    simpa only [ByteArray.append_assoc] using h2⟩
  generalize FmPost w0.heap.size g (X ++ (ByteArray.mk #[33] ++ joinB (ByteArray.mk #[]) (txtL [t0]) 1 ++ ByteArray.mk #[])) W = post at *
  simp only [List.length_cons, List.length_nil, Nat.reduceAdd, World.size_alloc] at HC
  clear HO HOK HA HBW hF hW hsz ht0 hft0
  go_enter Tryz.func164, Tryz.ntmps164
  go_wp2_with fail
  refine HC.out.mono ?_
  rintro e w2 ⟨rfl, hp2⟩
  have HP2 := tuck hp2
  clear hp2 HC
  go_wp2_with fail
  go_end0
  exact HP.out _ HP2.out

set_option maxRecDepth 100000 in
set_option maxHeartbeats 4000000 in
theorem vis_move (w0 : World) (g : Nat) (t0 : Tm) (at0 : Option Addr) (ct0 : Nat) (ht0 : SlIn w0 0 t0.kids (.slice at0 t0.kids.length ct0)) (hft0 : FmtOk w0 g t0) (t1 : Tm) (at1 : Option Addr) (ct1 : Nat) (ht1 : SlIn w0 0 t1.kids (.slice at1 t1.kids.length ct1)) (hft1 : FmtOk w0 g t1) (t2 : Tm) (at2 : Option Addr) (ct2 : Nat) (ht2 : SlIn w0 0 t2.kids (.slice at2 t2.kids.length ct2)) (hft2 : FmtOk w0 g t2) (W : World) (X : ByteArray) (hW : Below w0.heap.size w0 W) (hF : Fm w0.heap.size g X W) (hsz : X.size + (ByteArray.mk #[64, 60] ++ joinB (ByteArray.mk #[44]) (txtL [t0, t1, t2]) 3 ++ ByteArray.mk #[62]).size ≤ 1099511627776) :
    Calls Tryz.prog 161 #[.pointer (some ⟨g, 0, none⟩), .agg #[.int .i64 t0.kind, .int .i64 t0.num, .slice at0 t0.kids.length ct0], .agg #[.int .i64 t1.kind, .int .i64 t1.num, .slice at1 t1.kids.length ct1], .agg #[.int .i64 t2.kind, .int .i64 t2.num, .slice at2 t2.kids.length ct2]] W (FmPost w0.heap.size g (X ++ (ByteArray.mk #[64, 60] ++ joinB (ByteArray.mk #[44]) (txtL [t0, t1, t2]) 3 ++ ByteArray.mk #[62])) W) := by
  have hB : w0.heap.size ≤ W.heap.size := hW.size
  have hgW : g < W.heap.size := FIs.lt hF
  have HO : OpsAt w0 (((W.alloc (.cells #[.int .i64 t0.kind, .int .i64 t0.num, .slice at0 t0.kids.length ct0] 29)).alloc (.cells #[.int .i64 t1.kind, .int .i64 t1.num, .slice at1 t1.kids.length ct1] 29)).alloc (.cells #[.int .i64 t2.kind, .int .i64 t2.num, .slice at2 t2.kids.length ct2] 29)).heap.size [t0, t1, t2] ((((W.alloc (.cells #[.int .i64 t0.kind, .int .i64 t0.num, .slice at0 t0.kids.length ct0] 29)).alloc (.cells #[.int .i64 t1.kind, .int .i64 t1.num, .slice at1 t1.kids.length ct1] 29)).alloc (.cells #[.int .i64 t2.kind, .int .i64 t2.num, .slice at2 t2.kids.length ct2] 29)).alloc (.cells #[.int .i64 t0.kind, .int .i64 t0.num, .slice at0 t0.kids.length ct0, .int .i64 t1.kind, .int .i64 t1.num, .slice at1 t1.kids.length ct1, .int .i64 t2.kind, .int .i64 t2.num, .slice at2 t2.kids.length ct2] 29)) := by
    refine ⟨#[.int .i64 t0.kind, .int .i64 t0.num, .slice at0 t0.kids.length ct0, .int .i64 t1.kind, .int .i64 t1.num, .slice at1 t1.kids.length ct1, .int .i64 t2.kind, .int .i64 t2.num, .slice at2 t2.kids.length ct2], heap_new _ _, ?_⟩
    intro i hi
    match i, hi with
    | 0, _ => exact ⟨_, rfl, rfl, rfl, ht0⟩
    | 1, _ => exact ⟨_, rfl, rfl, rfl, ht1⟩
    | 2, _ => exact ⟨_, rfl, rfl, rfl, ht2⟩
  have HOK : ∀ (i : Nat) (h : i < ([t0, t1, t2] : List Tm).length), FmtOk w0 g ([t0, t1, t2] : List Tm)[i] := by
    intro i hi
    match i, hi with
    | 0, _ => exact hft0
    | 1, _ => exact hft1
    | 2, _ => exact hft2
  have HA : FmP w0.heap.size g X W ((((W.alloc (.cells #[.int .i64 t0.kind, .int .i64 t0.num, .slice at0 t0.kids.length ct0] 29)).alloc (.cells #[.int .i64 t1.kind, .int .i64 t1.num, .slice at1 t1.kids.length ct1] 29)).alloc (.cells #[.int .i64 t2.kind, .int .i64 t2.num, .slice at2 t2.kids.length ct2] 29)).alloc (.cells #[.int .i64 t0.kind, .int .i64 t0.num, .slice at0 t0.kids.length ct0, .int .i64 t1.kind, .int .i64 t1.num, .slice at1 t1.kids.length ct1, .int .i64 t2.kind, .int .i64 t2.num, .slice at2 t2.kids.length ct2] 29)) := (FmP.alloc (FmP.alloc (FmP.alloc (FmP.alloc (FmP.refl hF) hB _) (by simp; omega) _) (by simp; omega) _) (by simp; omega) _)
  have HBW : Below w0.heap.size w0 ((((W.alloc (.cells #[.int .i64 t0.kind, .int .i64 t0.num, .slice at0 t0.kids.length ct0] 29)).alloc (.cells #[.int .i64 t1.kind, .int .i64 t1.num, .slice at1 t1.kids.length ct1] 29)).alloc (.cells #[.int .i64 t2.kind, .int .i64 t2.num, .slice at2 t2.kids.length ct2] 29)).alloc (.cells #[.int .i64 t0.kind, .int .i64 t0.num, .slice at0 t0.kids.length ct0, .int .i64 t1.kind, .int .i64 t1.num, .slice at1 t1.kids.length ct1, .int .i64 t2.kind, .int .i64 t2.num, .slice at2 t2.kids.length ct2] 29)) := (Below.alloc (Below.alloc (Below.alloc (Below.alloc hW hB _) (by simp; omega) _) (by simp; omega) _) (by simp; omega) _)
  have HC := tuck (write_any w0 g (ByteArray.mk #[64, 60]) (ByteArray.mk #[44]) (ByteArray.mk #[62]) [t0, t1, t2] (((W.alloc (.cells #[.int .i64 t0.kind, .int .i64 t0.num, .slice at0 t0.kids.length ct0] 29)).alloc (.cells #[.int .i64 t1.kind, .int .i64 t1.num, .slice at1 t1.kids.length ct1] 29)).alloc (.cells #[.int .i64 t2.kind, .int .i64 t2.num, .slice at2 t2.kids.length ct2] 29)).heap.size ((((W.alloc (.cells #[.int .i64 t0.kind, .int .i64 t0.num, .slice at0 t0.kids.length ct0] 29)).alloc (.cells #[.int .i64 t1.kind, .int .i64 t1.num, .slice at1 t1.kids.length ct1] 29)).alloc (.cells #[.int .i64 t2.kind, .int .i64 t2.num, .slice at2 t2.kids.length ct2] 29)).alloc (.cells #[.int .i64 t0.kind, .int .i64 t0.num, .slice at0 t0.kids.length ct0, .int .i64 t1.kind, .int .i64 t1.num, .slice at1 t1.kids.length ct1, .int .i64 t2.kind, .int .i64 t2.num, .slice at2 t2.kids.length ct2] 29)) X (by simp) HOK HBW HO (by simp; omega) HA.fm (by simp only [ByteArray.size_append] at hsz; simp only [List.length_cons, List.length_nil, Nat.reduceAdd]; omega))
  have HP : Hid (∀ W', FmP w0.heap.size g (X ++ ByteArray.mk #[64, 60] ++ joinB (ByteArray.mk #[44]) (txtL [t0, t1, t2]) 3 ++ ByteArray.mk #[62]) ((((W.alloc (.cells #[.int .i64 t0.kind, .int .i64 t0.num, .slice at0 t0.kids.length ct0] 29)).alloc (.cells #[.int .i64 t1.kind, .int .i64 t1.num, .slice at1 t1.kids.length ct1] 29)).alloc (.cells #[.int .i64 t2.kind, .int .i64 t2.num, .slice at2 t2.kids.length ct2] 29)).alloc (.cells #[.int .i64 t0.kind, .int .i64 t0.num, .slice at0 t0.kids.length ct0, .int .i64 t1.kind, .int .i64 t1.num, .slice at1 t1.kids.length ct1, .int .i64 t2.kind, .int .i64 t2.num, .slice at2 t2.kids.length ct2] 29)) W' → FmPost w0.heap.size g (X ++ (ByteArray.mk #[64, 60] ++ joinB (ByteArray.mk #[44]) (txtL [t0, t1, t2]) 3 ++ ByteArray.mk #[62])) W (.returned (.tuple #[])) W') := tuck fun W' h => ⟨rfl, by
    have h2 := HA.trans h
    simpa only [ByteArray.append_assoc] using h2⟩
  generalize FmPost w0.heap.size g (X ++ (ByteArray.mk #[64, 60] ++ joinB (ByteArray.mk #[44]) (txtL [t0, t1, t2]) 3 ++ ByteArray.mk #[62])) W = post at *
  simp only [List.length_cons, List.length_nil, Nat.reduceAdd, World.size_alloc] at HC
  clear HO HOK HA HBW hF hW hsz ht0 hft0 ht1 hft1 ht2 hft2
  go_enter Tryz.func161, Tryz.ntmps161
  go_wp2_with fail
  refine HC.out.mono ?_
  rintro e w2 ⟨rfl, hp2⟩
  have HP2 := tuck hp2
  clear hp2 HC
  go_wp2_with fail
  go_end0
  exact HP.out _ HP2.out

set_option maxRecDepth 100000 in
set_option maxHeartbeats 4000000 in
theorem vis_sigma (w0 : World) (g : Nat) (t0 : Tm) (at0 : Option Addr) (ct0 : Nat) (ht0 : SlIn w0 0 t0.kids (.slice at0 t0.kids.length ct0)) (hft0 : FmtOk w0 g t0) (t1 : Tm) (at1 : Option Addr) (ct1 : Nat) (ht1 : SlIn w0 0 t1.kids (.slice at1 t1.kids.length ct1)) (hft1 : FmtOk w0 g t1) (W : World) (X : ByteArray) (hW : Below w0.heap.size w0 W) (hF : Fm w0.heap.size g X W) (hsz : X.size + (ByteArray.mk #[40] ++ joinB (ByteArray.mk #[42]) (txtL [t0, t1]) 2 ++ ByteArray.mk #[41]).size ≤ 1099511627776) :
    Calls Tryz.prog 238 #[.pointer (some ⟨g, 0, none⟩), .agg #[.int .i64 t0.kind, .int .i64 t0.num, .slice at0 t0.kids.length ct0], .agg #[.int .i64 t1.kind, .int .i64 t1.num, .slice at1 t1.kids.length ct1]] W (FmPost w0.heap.size g (X ++ (ByteArray.mk #[40] ++ joinB (ByteArray.mk #[42]) (txtL [t0, t1]) 2 ++ ByteArray.mk #[41])) W) := by
  have hB : w0.heap.size ≤ W.heap.size := hW.size
  have hgW : g < W.heap.size := FIs.lt hF
  have HO : OpsAt w0 ((W.alloc (.cells #[.int .i64 t0.kind, .int .i64 t0.num, .slice at0 t0.kids.length ct0] 29)).alloc (.cells #[.int .i64 t1.kind, .int .i64 t1.num, .slice at1 t1.kids.length ct1] 29)).heap.size [t0, t1] (((W.alloc (.cells #[.int .i64 t0.kind, .int .i64 t0.num, .slice at0 t0.kids.length ct0] 29)).alloc (.cells #[.int .i64 t1.kind, .int .i64 t1.num, .slice at1 t1.kids.length ct1] 29)).alloc (.cells #[.int .i64 t0.kind, .int .i64 t0.num, .slice at0 t0.kids.length ct0, .int .i64 t1.kind, .int .i64 t1.num, .slice at1 t1.kids.length ct1] 29)) := by
    refine ⟨#[.int .i64 t0.kind, .int .i64 t0.num, .slice at0 t0.kids.length ct0, .int .i64 t1.kind, .int .i64 t1.num, .slice at1 t1.kids.length ct1], heap_new _ _, ?_⟩
    intro i hi
    match i, hi with
    | 0, _ => exact ⟨_, rfl, rfl, rfl, ht0⟩
    | 1, _ => exact ⟨_, rfl, rfl, rfl, ht1⟩
  have HOK : ∀ (i : Nat) (h : i < ([t0, t1] : List Tm).length), FmtOk w0 g ([t0, t1] : List Tm)[i] := by
    intro i hi
    match i, hi with
    | 0, _ => exact hft0
    | 1, _ => exact hft1
  have HA : FmP w0.heap.size g X W (((W.alloc (.cells #[.int .i64 t0.kind, .int .i64 t0.num, .slice at0 t0.kids.length ct0] 29)).alloc (.cells #[.int .i64 t1.kind, .int .i64 t1.num, .slice at1 t1.kids.length ct1] 29)).alloc (.cells #[.int .i64 t0.kind, .int .i64 t0.num, .slice at0 t0.kids.length ct0, .int .i64 t1.kind, .int .i64 t1.num, .slice at1 t1.kids.length ct1] 29)) := (FmP.alloc (FmP.alloc (FmP.alloc (FmP.refl hF) hB _) (by simp; omega) _) (by simp; omega) _)
  have HBW : Below w0.heap.size w0 (((W.alloc (.cells #[.int .i64 t0.kind, .int .i64 t0.num, .slice at0 t0.kids.length ct0] 29)).alloc (.cells #[.int .i64 t1.kind, .int .i64 t1.num, .slice at1 t1.kids.length ct1] 29)).alloc (.cells #[.int .i64 t0.kind, .int .i64 t0.num, .slice at0 t0.kids.length ct0, .int .i64 t1.kind, .int .i64 t1.num, .slice at1 t1.kids.length ct1] 29)) := (Below.alloc (Below.alloc (Below.alloc hW hB _) (by simp; omega) _) (by simp; omega) _)
  have HC := tuck (write_any w0 g (ByteArray.mk #[40]) (ByteArray.mk #[42]) (ByteArray.mk #[41]) [t0, t1] ((W.alloc (.cells #[.int .i64 t0.kind, .int .i64 t0.num, .slice at0 t0.kids.length ct0] 29)).alloc (.cells #[.int .i64 t1.kind, .int .i64 t1.num, .slice at1 t1.kids.length ct1] 29)).heap.size (((W.alloc (.cells #[.int .i64 t0.kind, .int .i64 t0.num, .slice at0 t0.kids.length ct0] 29)).alloc (.cells #[.int .i64 t1.kind, .int .i64 t1.num, .slice at1 t1.kids.length ct1] 29)).alloc (.cells #[.int .i64 t0.kind, .int .i64 t0.num, .slice at0 t0.kids.length ct0, .int .i64 t1.kind, .int .i64 t1.num, .slice at1 t1.kids.length ct1] 29)) X (by simp) HOK HBW HO (by simp; omega) HA.fm (by simp only [ByteArray.size_append] at hsz; simp only [List.length_cons, List.length_nil, Nat.reduceAdd]; omega))
  have HP : Hid (∀ W', FmP w0.heap.size g (X ++ ByteArray.mk #[40] ++ joinB (ByteArray.mk #[42]) (txtL [t0, t1]) 2 ++ ByteArray.mk #[41]) (((W.alloc (.cells #[.int .i64 t0.kind, .int .i64 t0.num, .slice at0 t0.kids.length ct0] 29)).alloc (.cells #[.int .i64 t1.kind, .int .i64 t1.num, .slice at1 t1.kids.length ct1] 29)).alloc (.cells #[.int .i64 t0.kind, .int .i64 t0.num, .slice at0 t0.kids.length ct0, .int .i64 t1.kind, .int .i64 t1.num, .slice at1 t1.kids.length ct1] 29)) W' → FmPost w0.heap.size g (X ++ (ByteArray.mk #[40] ++ joinB (ByteArray.mk #[42]) (txtL [t0, t1]) 2 ++ ByteArray.mk #[41])) W (.returned (.tuple #[])) W') := tuck fun W' h => ⟨rfl, by
    have h2 := HA.trans h
    simpa only [ByteArray.append_assoc] using h2⟩
  generalize FmPost w0.heap.size g (X ++ (ByteArray.mk #[40] ++ joinB (ByteArray.mk #[42]) (txtL [t0, t1]) 2 ++ ByteArray.mk #[41])) W = post at *
  simp only [List.length_cons, List.length_nil, Nat.reduceAdd, World.size_alloc] at HC
  clear HO HOK HA HBW hF hW hsz ht0 hft0 ht1 hft1
  go_enter Tryz.func238, Tryz.ntmps238
  go_wp2_with fail
  refine HC.out.mono ?_
  rintro e w2 ⟨rfl, hp2⟩
  have HP2 := tuck hp2
  clear hp2 HC
  go_wp2_with fail
  go_end0
  exact HP.out _ HP2.out

set_option maxRecDepth 100000 in
set_option maxHeartbeats 4000000 in
theorem vis_pair (w0 : World) (g : Nat) (t0 : Tm) (at0 : Option Addr) (ct0 : Nat) (ht0 : SlIn w0 0 t0.kids (.slice at0 t0.kids.length ct0)) (hft0 : FmtOk w0 g t0) (t1 : Tm) (at1 : Option Addr) (ct1 : Nat) (ht1 : SlIn w0 0 t1.kids (.slice at1 t1.kids.length ct1)) (hft1 : FmtOk w0 g t1) (t2 : Tm) (at2 : Option Addr) (ct2 : Nat) (ht2 : SlIn w0 0 t2.kids (.slice at2 t2.kids.length ct2)) (hft2 : FmtOk w0 g t2) (W : World) (X : ByteArray) (hW : Below w0.heap.size w0 W) (hF : Fm w0.heap.size g X W) (hsz : X.size + (ByteArray.mk #[124] ++ joinB (ByteArray.mk #[44]) (txtL [t0, t1, t2]) 3 ++ ByteArray.mk #[124]).size ≤ 1099511627776) :
    Calls Tryz.prog 162 #[.pointer (some ⟨g, 0, none⟩), .agg #[.int .i64 t0.kind, .int .i64 t0.num, .slice at0 t0.kids.length ct0], .agg #[.int .i64 t1.kind, .int .i64 t1.num, .slice at1 t1.kids.length ct1], .agg #[.int .i64 t2.kind, .int .i64 t2.num, .slice at2 t2.kids.length ct2]] W (FmPost w0.heap.size g (X ++ (ByteArray.mk #[124] ++ joinB (ByteArray.mk #[44]) (txtL [t0, t1, t2]) 3 ++ ByteArray.mk #[124])) W) := by
  have hB : w0.heap.size ≤ W.heap.size := hW.size
  have hgW : g < W.heap.size := FIs.lt hF
  have HO : OpsAt w0 (((W.alloc (.cells #[.int .i64 t0.kind, .int .i64 t0.num, .slice at0 t0.kids.length ct0] 29)).alloc (.cells #[.int .i64 t1.kind, .int .i64 t1.num, .slice at1 t1.kids.length ct1] 29)).alloc (.cells #[.int .i64 t2.kind, .int .i64 t2.num, .slice at2 t2.kids.length ct2] 29)).heap.size [t0, t1, t2] ((((W.alloc (.cells #[.int .i64 t0.kind, .int .i64 t0.num, .slice at0 t0.kids.length ct0] 29)).alloc (.cells #[.int .i64 t1.kind, .int .i64 t1.num, .slice at1 t1.kids.length ct1] 29)).alloc (.cells #[.int .i64 t2.kind, .int .i64 t2.num, .slice at2 t2.kids.length ct2] 29)).alloc (.cells #[.int .i64 t0.kind, .int .i64 t0.num, .slice at0 t0.kids.length ct0, .int .i64 t1.kind, .int .i64 t1.num, .slice at1 t1.kids.length ct1, .int .i64 t2.kind, .int .i64 t2.num, .slice at2 t2.kids.length ct2] 29)) := by
    refine ⟨#[.int .i64 t0.kind, .int .i64 t0.num, .slice at0 t0.kids.length ct0, .int .i64 t1.kind, .int .i64 t1.num, .slice at1 t1.kids.length ct1, .int .i64 t2.kind, .int .i64 t2.num, .slice at2 t2.kids.length ct2], heap_new _ _, ?_⟩
    intro i hi
    match i, hi with
    | 0, _ => exact ⟨_, rfl, rfl, rfl, ht0⟩
    | 1, _ => exact ⟨_, rfl, rfl, rfl, ht1⟩
    | 2, _ => exact ⟨_, rfl, rfl, rfl, ht2⟩
  have HOK : ∀ (i : Nat) (h : i < ([t0, t1, t2] : List Tm).length), FmtOk w0 g ([t0, t1, t2] : List Tm)[i] := by
    intro i hi
    match i, hi with
    | 0, _ => exact hft0
    | 1, _ => exact hft1
    | 2, _ => exact hft2
  have HA : FmP w0.heap.size g X W ((((W.alloc (.cells #[.int .i64 t0.kind, .int .i64 t0.num, .slice at0 t0.kids.length ct0] 29)).alloc (.cells #[.int .i64 t1.kind, .int .i64 t1.num, .slice at1 t1.kids.length ct1] 29)).alloc (.cells #[.int .i64 t2.kind, .int .i64 t2.num, .slice at2 t2.kids.length ct2] 29)).alloc (.cells #[.int .i64 t0.kind, .int .i64 t0.num, .slice at0 t0.kids.length ct0, .int .i64 t1.kind, .int .i64 t1.num, .slice at1 t1.kids.length ct1, .int .i64 t2.kind, .int .i64 t2.num, .slice at2 t2.kids.length ct2] 29)) := (FmP.alloc (FmP.alloc (FmP.alloc (FmP.alloc (FmP.refl hF) hB _) (by simp; omega) _) (by simp; omega) _) (by simp; omega) _)
  have HBW : Below w0.heap.size w0 ((((W.alloc (.cells #[.int .i64 t0.kind, .int .i64 t0.num, .slice at0 t0.kids.length ct0] 29)).alloc (.cells #[.int .i64 t1.kind, .int .i64 t1.num, .slice at1 t1.kids.length ct1] 29)).alloc (.cells #[.int .i64 t2.kind, .int .i64 t2.num, .slice at2 t2.kids.length ct2] 29)).alloc (.cells #[.int .i64 t0.kind, .int .i64 t0.num, .slice at0 t0.kids.length ct0, .int .i64 t1.kind, .int .i64 t1.num, .slice at1 t1.kids.length ct1, .int .i64 t2.kind, .int .i64 t2.num, .slice at2 t2.kids.length ct2] 29)) := (Below.alloc (Below.alloc (Below.alloc (Below.alloc hW hB _) (by simp; omega) _) (by simp; omega) _) (by simp; omega) _)
  have HC := tuck (write_any w0 g (ByteArray.mk #[124]) (ByteArray.mk #[44]) (ByteArray.mk #[124]) [t0, t1, t2] (((W.alloc (.cells #[.int .i64 t0.kind, .int .i64 t0.num, .slice at0 t0.kids.length ct0] 29)).alloc (.cells #[.int .i64 t1.kind, .int .i64 t1.num, .slice at1 t1.kids.length ct1] 29)).alloc (.cells #[.int .i64 t2.kind, .int .i64 t2.num, .slice at2 t2.kids.length ct2] 29)).heap.size ((((W.alloc (.cells #[.int .i64 t0.kind, .int .i64 t0.num, .slice at0 t0.kids.length ct0] 29)).alloc (.cells #[.int .i64 t1.kind, .int .i64 t1.num, .slice at1 t1.kids.length ct1] 29)).alloc (.cells #[.int .i64 t2.kind, .int .i64 t2.num, .slice at2 t2.kids.length ct2] 29)).alloc (.cells #[.int .i64 t0.kind, .int .i64 t0.num, .slice at0 t0.kids.length ct0, .int .i64 t1.kind, .int .i64 t1.num, .slice at1 t1.kids.length ct1, .int .i64 t2.kind, .int .i64 t2.num, .slice at2 t2.kids.length ct2] 29)) X (by simp) HOK HBW HO (by simp; omega) HA.fm (by simp only [ByteArray.size_append] at hsz; simp only [List.length_cons, List.length_nil, Nat.reduceAdd]; omega))
  have HP : Hid (∀ W', FmP w0.heap.size g (X ++ ByteArray.mk #[124] ++ joinB (ByteArray.mk #[44]) (txtL [t0, t1, t2]) 3 ++ ByteArray.mk #[124]) ((((W.alloc (.cells #[.int .i64 t0.kind, .int .i64 t0.num, .slice at0 t0.kids.length ct0] 29)).alloc (.cells #[.int .i64 t1.kind, .int .i64 t1.num, .slice at1 t1.kids.length ct1] 29)).alloc (.cells #[.int .i64 t2.kind, .int .i64 t2.num, .slice at2 t2.kids.length ct2] 29)).alloc (.cells #[.int .i64 t0.kind, .int .i64 t0.num, .slice at0 t0.kids.length ct0, .int .i64 t1.kind, .int .i64 t1.num, .slice at1 t1.kids.length ct1, .int .i64 t2.kind, .int .i64 t2.num, .slice at2 t2.kids.length ct2] 29)) W' → FmPost w0.heap.size g (X ++ (ByteArray.mk #[124] ++ joinB (ByteArray.mk #[44]) (txtL [t0, t1, t2]) 3 ++ ByteArray.mk #[124])) W (.returned (.tuple #[])) W') := tuck fun W' h => ⟨rfl, by
    have h2 := HA.trans h
    simpa only [ByteArray.append_assoc] using h2⟩
  generalize FmPost w0.heap.size g (X ++ (ByteArray.mk #[124] ++ joinB (ByteArray.mk #[44]) (txtL [t0, t1, t2]) 3 ++ ByteArray.mk #[124])) W = post at *
  simp only [List.length_cons, List.length_nil, Nat.reduceAdd, World.size_alloc] at HC
  clear HO HOK HA HBW hF hW hsz ht0 hft0 ht1 hft1 ht2 hft2
  go_enter Tryz.func162, Tryz.ntmps162
  go_wp2_with fail
  refine HC.out.mono ?_
  rintro e w2 ⟨rfl, hp2⟩
  have HP2 := tuck hp2
  clear hp2 HC
  go_wp2_with fail
  go_end0
  exact HP.out _ HP2.out

set_option maxRecDepth 100000 in
set_option maxHeartbeats 4000000 in
theorem vis_fst (w0 : World) (g : Nat) (t0 : Tm) (at0 : Option Addr) (ct0 : Nat) (ht0 : SlIn w0 0 t0.kids (.slice at0 t0.kids.length ct0)) (hft0 : FmtOk w0 g t0) (W : World) (X : ByteArray) (hW : Below w0.heap.size w0 W) (hF : Fm w0.heap.size g X W) (hsz : X.size + (ByteArray.mk #[94] ++ joinB (ByteArray.mk #[]) (txtL [t0]) 1 ++ ByteArray.mk #[]).size ≤ 1099511627776) :
    Calls Tryz.prog 158 #[.pointer (some ⟨g, 0, none⟩), .agg #[.int .i64 t0.kind, .int .i64 t0.num, .slice at0 t0.kids.length ct0]] W (FmPost w0.heap.size g (X ++ (ByteArray.mk #[94] ++ joinB (ByteArray.mk #[]) (txtL [t0]) 1 ++ ByteArray.mk #[])) W) := by
  have hB : w0.heap.size ≤ W.heap.size := hW.size
  have hgW : g < W.heap.size := FIs.lt hF
  have HO : OpsAt w0 (W.alloc (.cells #[.int .i64 t0.kind, .int .i64 t0.num, .slice at0 t0.kids.length ct0] 29)).heap.size [t0] ((W.alloc (.cells #[.int .i64 t0.kind, .int .i64 t0.num, .slice at0 t0.kids.length ct0] 29)).alloc (.cells #[.int .i64 t0.kind, .int .i64 t0.num, .slice at0 t0.kids.length ct0] 29)) := by
    refine ⟨#[.int .i64 t0.kind, .int .i64 t0.num, .slice at0 t0.kids.length ct0], heap_new _ _, ?_⟩
    intro i hi
    match i, hi with
    | 0, _ => exact ⟨_, rfl, rfl, rfl, ht0⟩
  have HOK : ∀ (i : Nat) (h : i < ([t0] : List Tm).length), FmtOk w0 g ([t0] : List Tm)[i] := by
    intro i hi
    match i, hi with
    | 0, _ => exact hft0
  have HA : FmP w0.heap.size g X W ((W.alloc (.cells #[.int .i64 t0.kind, .int .i64 t0.num, .slice at0 t0.kids.length ct0] 29)).alloc (.cells #[.int .i64 t0.kind, .int .i64 t0.num, .slice at0 t0.kids.length ct0] 29)) := (FmP.alloc (FmP.alloc (FmP.refl hF) hB _) (by simp; omega) _)
  have HBW : Below w0.heap.size w0 ((W.alloc (.cells #[.int .i64 t0.kind, .int .i64 t0.num, .slice at0 t0.kids.length ct0] 29)).alloc (.cells #[.int .i64 t0.kind, .int .i64 t0.num, .slice at0 t0.kids.length ct0] 29)) := (Below.alloc (Below.alloc hW hB _) (by simp; omega) _)
  have HC := tuck (write_any w0 g (ByteArray.mk #[94]) (ByteArray.mk #[]) (ByteArray.mk #[]) [t0] (W.alloc (.cells #[.int .i64 t0.kind, .int .i64 t0.num, .slice at0 t0.kids.length ct0] 29)).heap.size ((W.alloc (.cells #[.int .i64 t0.kind, .int .i64 t0.num, .slice at0 t0.kids.length ct0] 29)).alloc (.cells #[.int .i64 t0.kind, .int .i64 t0.num, .slice at0 t0.kids.length ct0] 29)) X (by simp) HOK HBW HO (by simp; omega) HA.fm (by simp only [ByteArray.size_append] at hsz; simp only [List.length_cons, List.length_nil, Nat.reduceAdd]; omega))
  have HP : Hid (∀ W', FmP w0.heap.size g (X ++ ByteArray.mk #[94] ++ joinB (ByteArray.mk #[]) (txtL [t0]) 1 ++ ByteArray.mk #[]) ((W.alloc (.cells #[.int .i64 t0.kind, .int .i64 t0.num, .slice at0 t0.kids.length ct0] 29)).alloc (.cells #[.int .i64 t0.kind, .int .i64 t0.num, .slice at0 t0.kids.length ct0] 29)) W' → FmPost w0.heap.size g (X ++ (ByteArray.mk #[94] ++ joinB (ByteArray.mk #[]) (txtL [t0]) 1 ++ ByteArray.mk #[])) W (.returned (.tuple #[])) W') := tuck fun W' h => ⟨rfl, by
    have h2 := HA.trans h
    simpa only [ByteArray.append_assoc] using h2⟩
  generalize FmPost w0.heap.size g (X ++ (ByteArray.mk #[94] ++ joinB (ByteArray.mk #[]) (txtL [t0]) 1 ++ ByteArray.mk #[])) W = post at *
  simp only [List.length_cons, List.length_nil, Nat.reduceAdd, World.size_alloc] at HC
  clear HO HOK HA HBW hF hW hsz ht0 hft0
  go_enter Tryz.func158, Tryz.ntmps158
  go_wp2_with fail
  refine HC.out.mono ?_
  rintro e w2 ⟨rfl, hp2⟩
  have HP2 := tuck hp2
  clear hp2 HC
  go_wp2_with fail
  go_end0
  exact HP.out _ HP2.out

set_option maxRecDepth 100000 in
set_option maxHeartbeats 4000000 in
theorem vis_snd (w0 : World) (g : Nat) (t0 : Tm) (at0 : Option Addr) (ct0 : Nat) (ht0 : SlIn w0 0 t0.kids (.slice at0 t0.kids.length ct0)) (hft0 : FmtOk w0 g t0) (W : World) (X : ByteArray) (hW : Below w0.heap.size w0 W) (hF : Fm w0.heap.size g X W) (hsz : X.size + (ByteArray.mk #[95] ++ joinB (ByteArray.mk #[]) (txtL [t0]) 1 ++ ByteArray.mk #[]).size ≤ 1099511627776) :
    Calls Tryz.prog 166 #[.pointer (some ⟨g, 0, none⟩), .agg #[.int .i64 t0.kind, .int .i64 t0.num, .slice at0 t0.kids.length ct0]] W (FmPost w0.heap.size g (X ++ (ByteArray.mk #[95] ++ joinB (ByteArray.mk #[]) (txtL [t0]) 1 ++ ByteArray.mk #[])) W) := by
  have hB : w0.heap.size ≤ W.heap.size := hW.size
  have hgW : g < W.heap.size := FIs.lt hF
  have HO : OpsAt w0 (W.alloc (.cells #[.int .i64 t0.kind, .int .i64 t0.num, .slice at0 t0.kids.length ct0] 29)).heap.size [t0] ((W.alloc (.cells #[.int .i64 t0.kind, .int .i64 t0.num, .slice at0 t0.kids.length ct0] 29)).alloc (.cells #[.int .i64 t0.kind, .int .i64 t0.num, .slice at0 t0.kids.length ct0] 29)) := by
    refine ⟨#[.int .i64 t0.kind, .int .i64 t0.num, .slice at0 t0.kids.length ct0], heap_new _ _, ?_⟩
    intro i hi
    match i, hi with
    | 0, _ => exact ⟨_, rfl, rfl, rfl, ht0⟩
  have HOK : ∀ (i : Nat) (h : i < ([t0] : List Tm).length), FmtOk w0 g ([t0] : List Tm)[i] := by
    intro i hi
    match i, hi with
    | 0, _ => exact hft0
  have HA : FmP w0.heap.size g X W ((W.alloc (.cells #[.int .i64 t0.kind, .int .i64 t0.num, .slice at0 t0.kids.length ct0] 29)).alloc (.cells #[.int .i64 t0.kind, .int .i64 t0.num, .slice at0 t0.kids.length ct0] 29)) := (FmP.alloc (FmP.alloc (FmP.refl hF) hB _) (by simp; omega) _)
  have HBW : Below w0.heap.size w0 ((W.alloc (.cells #[.int .i64 t0.kind, .int .i64 t0.num, .slice at0 t0.kids.length ct0] 29)).alloc (.cells #[.int .i64 t0.kind, .int .i64 t0.num, .slice at0 t0.kids.length ct0] 29)) := (Below.alloc (Below.alloc hW hB _) (by simp; omega) _)
  have HC := tuck (write_any w0 g (ByteArray.mk #[95]) (ByteArray.mk #[]) (ByteArray.mk #[]) [t0] (W.alloc (.cells #[.int .i64 t0.kind, .int .i64 t0.num, .slice at0 t0.kids.length ct0] 29)).heap.size ((W.alloc (.cells #[.int .i64 t0.kind, .int .i64 t0.num, .slice at0 t0.kids.length ct0] 29)).alloc (.cells #[.int .i64 t0.kind, .int .i64 t0.num, .slice at0 t0.kids.length ct0] 29)) X (by simp) HOK HBW HO (by simp; omega) HA.fm (by simp only [ByteArray.size_append] at hsz; simp only [List.length_cons, List.length_nil, Nat.reduceAdd]; omega))
  have HP : Hid (∀ W', FmP w0.heap.size g (X ++ ByteArray.mk #[95] ++ joinB (ByteArray.mk #[]) (txtL [t0]) 1 ++ ByteArray.mk #[]) ((W.alloc (.cells #[.int .i64 t0.kind, .int .i64 t0.num, .slice at0 t0.kids.length ct0] 29)).alloc (.cells #[.int .i64 t0.kind, .int .i64 t0.num, .slice at0 t0.kids.length ct0] 29)) W' → FmPost w0.heap.size g (X ++ (ByteArray.mk #[95] ++ joinB (ByteArray.mk #[]) (txtL [t0]) 1 ++ ByteArray.mk #[])) W (.returned (.tuple #[])) W') := tuck fun W' h => ⟨rfl, by
    have h2 := HA.trans h
    simpa only [ByteArray.append_assoc] using h2⟩
  generalize FmPost w0.heap.size g (X ++ (ByteArray.mk #[95] ++ joinB (ByteArray.mk #[]) (txtL [t0]) 1 ++ ByteArray.mk #[])) W = post at *
  simp only [List.length_cons, List.length_nil, Nat.reduceAdd, World.size_alloc] at HC
  clear HO HOK HA HBW hF hW hsz ht0 hft0
  go_enter Tryz.func166, Tryz.ntmps166
  go_wp2_with fail
  refine HC.out.mono ?_
  rintro e w2 ⟨rfl, hp2⟩
  have HP2 := tuck hp2
  clear hp2 HC
  go_wp2_with fail
  go_end0
  exact HP.out _ HP2.out

end Go.Proofs.YteeafpnjpcgfaaaGreat
