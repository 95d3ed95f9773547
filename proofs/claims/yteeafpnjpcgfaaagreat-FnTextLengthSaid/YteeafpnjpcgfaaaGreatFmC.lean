/-
  impl's formatter: accept of each kind, format, FormatTerm.
-/
import Derived.Test.YteeafpnjpcgfaaaGreatFmB
import Derived.Deep.RegionHeld3
namespace Go.Proofs.YteeafpnjpcgfaaaGreat
open Go.RowKit Go.Shelf
set_option linter.unusedVariables false
set_option linter.unusedSimpArgs false

set_option maxRecDepth 100000 in
set_option maxHeartbeats 4000000 in
theorem acc_pi (w0 : World) (g : Nat) (tn : Int) (t0 : Tm) (hft0 : FmtOk w0 g t0) (t1 : Tm) (hft1 : FmtOk w0 g t1) (a : Option Addr) (c : Nat) (hs : SlIn w0 0 [t0, t1] (.slice a 2 c)) (W : World) (X : ByteArray) (hW : Below w0.heap.size w0 W) (hF : Fm w0.heap.size g X W) (hsz : X.size + (ByteArray.mk #[40] ++ joinB (ByteArray.mk #[62]) (txtL [t0, t1]) 2 ++ ByteArray.mk #[41]).size ≤ 1099511627776) :
    Calls Tryz.prog 198 #[.agg #[], .iface 53 (.pointer (some ⟨g, 0, none⟩)), .agg #[.int .i64 3, .int .i64 tn, .slice a 2 c]] W (FmPost w0.heap.size g (X ++ (ByteArray.mk #[40] ++ joinB (ByteArray.mk #[62]) (txtL [t0, t1]) 2 ++ ByteArray.mk #[41])) W) := by
  have hB : w0.heap.size ≤ W.heap.size := hW.size
  have hgW : g < W.heap.size := FIs.lt hF
  obtain ⟨a', cap, b, o, he, h1, h2, hrow⟩ := hs
  simp only [List.length_cons, List.length_nil, Nat.reduceAdd, Value.slice.injEq, true_and] at he
  obtain ⟨rfl, rfl⟩ := he
  obtain ⟨rfl, -⟩ := h2 (by simp)
  simp only [RowAt] at hrow
  obtain ⟨st0, xt00, xt01, xt02, ht0⟩ := TmAt_iff.1 (show TmAt w0 0 t0 b o from hrow.1)
  obtain ⟨at0, ct0, rfl⟩ := ht0.form
  obtain ⟨st1, xt10, xt11, xt12, ht1⟩ := TmAt_iff.1 (show TmAt w0 0 t1 b (o + 3) from hrow.2.1)
  obtain ⟨at1, ct1, rfl⟩ := ht1.form
  have hm : ∀ n w, (method (n + 1) 53 (.pointer (some ⟨g, 0, none⟩)) "loop.example/depkernel/impl.visitPi").run Tryz.prog w = .ok (237, .pointer (some ⟨g, 0, none⟩)) w := fun _ _ => by kernel_rfl
  have hna : ∀ n w, (nilAhead (n + 1) 53 (.pointer (some ⟨g, 0, none⟩)) "loop.example/depkernel/impl.visitPi").run Tryz.prog w = .ok (some false) w := fun _ _ => by kernel_rfl
  have hmf : ∀ (fn : Fn) (first cap : Array Value) (w : World), (Instr.makeFunc fn first cap).run Tryz.prog w = .ok (.func fn first cap) w := fun _ _ _ _ => rfl
  go_enter Tryz.func198, Tryz.ntmps198
  go_wp2_with fail
  have HVB : Hid (VarAt (W.heap.size + 1) 3 tn (.slice (some ⟨b, o, none⟩) 2 c) ((W.alloc (.cells #[] 150)).alloc (.cells #[.int .i64 3, .int .i64 tn, .slice (some ⟨b, o, none⟩) 2 c] 29))) := tuck (by
    have h := VarAt.new (W.alloc (.cells #[] 150)) 3 tn (.slice (some ⟨b, o, none⟩) 2 c)
    simpa using h)
  have HPB : Hid (FmP w0.heap.size g X W ((W.alloc (.cells #[] 150)).alloc (.cells #[.int .i64 3, .int .i64 tn, .slice (some ⟨b, o, none⟩) 2 c] 29))) := tuck (((FmP.refl hF).alloc hB _).alloc (by simp; omega) _)
  have HBB : Hid (Below w0.heap.size w0 ((W.alloc (.cells #[] 150)).alloc (.cells #[.int .i64 3, .int .i64 tn, .slice (some ⟨b, o, none⟩) 2 c] 29))) := tuck ((hW.alloc hB _).alloc (by simp; omega) _)
  generalize ((W.alloc (.cells #[] 150)).alloc (.cells #[.int .i64 3, .int .i64 tn, .slice (some ⟨b, o, none⟩) 2 c] 29)) = WB at *
  have hbg : W.heap.size + 1 ≠ g := by omega
  generalize W.heap.size + 1 = bb at *
  obtain ⟨zb, v0, v1, v2, vf⟩ := HVB.out.facts
  have y0 : WB.drew.cell? ⟨b, o, none⟩ = some (.int .i64 t0.kind) := (HBB.out.cell (p := ⟨b, o, none⟩) (World.block_lt_of_cell? w0 _ xt00)).trans xt00
  have y1 : WB.drew.cell? ⟨b, o + 1, none⟩ = some (.int .i64 t0.num) := (HBB.out.cell (p := ⟨b, o + 1, none⟩) (World.block_lt_of_cell? w0 _ xt01)).trans xt01
  have y2 : WB.drew.cell? ⟨b, o + 2, none⟩ = some (.slice at0 t0.kids.length ct0) := (HBB.out.cell (p := ⟨b, o + 2, none⟩) (World.block_lt_of_cell? w0 _ xt02)).trans xt02
  have y3 : WB.drew.cell? ⟨b, o + 3, none⟩ = some (.int .i64 t1.kind) := (HBB.out.cell (p := ⟨b, o + 3, none⟩) (World.block_lt_of_cell? w0 _ xt10)).trans xt10
  have y4 : WB.drew.cell? ⟨b, o + 4, none⟩ = some (.int .i64 t1.num) := (HBB.out.cell (p := ⟨b, o + 4, none⟩) (World.block_lt_of_cell? w0 _ xt11)).trans xt11
  have y5 : WB.drew.cell? ⟨b, o + 5, none⟩ = some (.slice at1 t1.kids.length ct1) := (HBB.out.cell (p := ⟨b, o + 5, none⟩) (World.block_lt_of_cell? w0 _ xt12)).trans xt12
  have HS0 : Hid ((fun w' : World => bb < w'.heap.size ∧ w'.cell? ⟨bb, 2, none⟩ = some (.slice (some ⟨b, o, none⟩) 2 c) ∧ w'.cell? ⟨b, o, none⟩ = some (.int .i64 t0.kind) ∧ w'.cell? ⟨b, o + 1, none⟩ = some (.int .i64 t0.num) ∧ w'.cell? ⟨b, o + 2, none⟩ = some (.slice at0 t0.kids.length ct0) ∧ w'.cell? ⟨b, o + 3, none⟩ = some (.int .i64 t1.kind) ∧ w'.cell? ⟨b, o + 4, none⟩ = some (.int .i64 t1.num) ∧ w'.cell? ⟨b, o + 5, none⟩ = some (.slice at1 t1.kids.length ct1)) WB.drew) := tuck ⟨zb, v2, y0, y1, y2, y3, y4, y5⟩
  have HSK : Hid (∀ w', FmP w0.heap.size g (X ++ (ByteArray.mk #[40] ++ joinB (ByteArray.mk #[62]) (txtL [t0, t1]) 2 ++ ByteArray.mk #[41])) WB.drew w' → (fun w' : World => bb < w'.heap.size ∧ w'.cell? ⟨bb, 2, none⟩ = some (.slice (some ⟨b, o, none⟩) 2 c) ∧ w'.cell? ⟨b, o, none⟩ = some (.int .i64 t0.kind) ∧ w'.cell? ⟨b, o + 1, none⟩ = some (.int .i64 t0.num) ∧ w'.cell? ⟨b, o + 2, none⟩ = some (.slice at0 t0.kids.length ct0) ∧ w'.cell? ⟨b, o + 3, none⟩ = some (.int .i64 t1.kind) ∧ w'.cell? ⟨b, o + 4, none⟩ = some (.int .i64 t1.num) ∧ w'.cell? ⟨b, o + 5, none⟩ = some (.slice at1 t1.kids.length ct1)) w') := tuck fun w' h => by
    have hb := HBB.out.drew.trans h.be
    obtain ⟨zb', -, -, v2', -⟩ := ((show VarAt bb _ _ _ WB.drew from HVB.out).others h.ok hbg).facts
    exact ⟨zb', v2', (hb.cell (p := ⟨b, o, none⟩) (World.block_lt_of_cell? w0 _ xt00)).trans xt00, (hb.cell (p := ⟨b, o + 1, none⟩) (World.block_lt_of_cell? w0 _ xt01)).trans xt01, (hb.cell (p := ⟨b, o + 2, none⟩) (World.block_lt_of_cell? w0 _ xt02)).trans xt02, (hb.cell (p := ⟨b, o + 3, none⟩) (World.block_lt_of_cell? w0 _ xt10)).trans xt10, (hb.cell (p := ⟨b, o + 4, none⟩) (World.block_lt_of_cell? w0 _ xt11)).trans xt11, (hb.cell (p := ⟨b, o + 5, none⟩) (World.block_lt_of_cell? w0 _ xt12)).trans xt12⟩
  have HC := tuck (vis_pi w0 g t0 at0 ct0 ht0 hft0 t1 at1 ct1 ht1 hft1 WB.drew X HBB.out.drew HPB.out.fm.drew hsz)
  have HP : Hid (∀ W', FmP w0.heap.size g (X ++ (ByteArray.mk #[40] ++ joinB (ByteArray.mk #[62]) (txtL [t0, t1]) 2 ++ ByteArray.mk #[41])) WB.drew W' → FmPost w0.heap.size g (X ++ (ByteArray.mk #[40] ++ joinB (ByteArray.mk #[62]) (txtL [t0, t1]) 2 ++ ByteArray.mk #[41])) W (.returned (.tuple #[])) W') := tuck fun W' h => ⟨rfl, HPB.out.drew.trans h⟩
  generalize FmPost w0.heap.size g (X ++ (ByteArray.mk #[40] ++ joinB (ByteArray.mk #[62]) (txtL [t0, t1]) 2 ++ ByteArray.mk #[41])) W = post at *
  clear ht0 hft0 xt00 xt01 xt02 ht1 hft1 xt10 xt11 xt12 hW hF hsz hrow h1 h2 hB hgW zb v0 v1 v2 vf y0 y1 y2 y3 y4 y5 HVB HBB HPB hbg
  go_region_held3 (fun w' : World => bb < w'.heap.size ∧ w'.cell? ⟨bb, 2, none⟩ = some (.slice (some ⟨b, o, none⟩) 2 c) ∧ w'.cell? ⟨b, o, none⟩ = some (.int .i64 t0.kind) ∧ w'.cell? ⟨b, o + 1, none⟩ = some (.int .i64 t0.num) ∧ w'.cell? ⟨b, o + 2, none⟩ = some (.slice at0 t0.kids.length ct0) ∧ w'.cell? ⟨b, o + 3, none⟩ = some (.int .i64 t1.kind) ∧ w'.cell? ⟨b, o + 4, none⟩ = some (.int .i64 t1.num) ∧ w'.cell? ⟨b, o + 5, none⟩ = some (.slice at1 t1.kids.length ct1)) (first | exact HS0.out | exact HSK.out _ HP2.out) (((with_reducible refine HC.out.mono ?_); rintro e w' ⟨rfl, hp⟩; have HP2 := tuck hp; clear hp))
  go_wp2_with fail
  go_end0
  exact HP.out _ HP2.out

set_option maxRecDepth 100000 in
set_option maxHeartbeats 4000000 in
theorem acc_lam (w0 : World) (g : Nat) (tn : Int) (t0 : Tm) (hft0 : FmtOk w0 g t0) (t1 : Tm) (hft1 : FmtOk w0 g t1) (a : Option Addr) (c : Nat) (hs : SlIn w0 0 [t0, t1] (.slice a 2 c)) (W : World) (X : ByteArray) (hW : Below w0.heap.size w0 W) (hF : Fm w0.heap.size g X W) (hsz : X.size + (ByteArray.mk #[91] ++ joinB (ByteArray.mk #[93]) (txtL [t0, t1]) 2 ++ ByteArray.mk #[]).size ≤ 1099511627776) :
    Calls Tryz.prog 201 #[.agg #[], .iface 53 (.pointer (some ⟨g, 0, none⟩)), .agg #[.int .i64 4, .int .i64 tn, .slice a 2 c]] W (FmPost w0.heap.size g (X ++ (ByteArray.mk #[91] ++ joinB (ByteArray.mk #[93]) (txtL [t0, t1]) 2 ++ ByteArray.mk #[])) W) := by
  have hB : w0.heap.size ≤ W.heap.size := hW.size
  have hgW : g < W.heap.size := FIs.lt hF
  obtain ⟨a', cap, b, o, he, h1, h2, hrow⟩ := hs
  simp only [List.length_cons, List.length_nil, Nat.reduceAdd, Value.slice.injEq, true_and] at he
  obtain ⟨rfl, rfl⟩ := he
  obtain ⟨rfl, -⟩ := h2 (by simp)
  simp only [RowAt] at hrow
  obtain ⟨st0, xt00, xt01, xt02, ht0⟩ := TmAt_iff.1 (show TmAt w0 0 t0 b o from hrow.1)
  obtain ⟨at0, ct0, rfl⟩ := ht0.form
  obtain ⟨st1, xt10, xt11, xt12, ht1⟩ := TmAt_iff.1 (show TmAt w0 0 t1 b (o + 3) from hrow.2.1)
  obtain ⟨at1, ct1, rfl⟩ := ht1.form
  have hm : ∀ n w, (method (n + 1) 53 (.pointer (some ⟨g, 0, none⟩)) "loop.example/depkernel/impl.visitLam").run Tryz.prog w = .ok (236, .pointer (some ⟨g, 0, none⟩)) w := fun _ _ => by kernel_rfl
  have hna : ∀ n w, (nilAhead (n + 1) 53 (.pointer (some ⟨g, 0, none⟩)) "loop.example/depkernel/impl.visitLam").run Tryz.prog w = .ok (some false) w := fun _ _ => by kernel_rfl
  have hmf : ∀ (fn : Fn) (first cap : Array Value) (w : World), (Instr.makeFunc fn first cap).run Tryz.prog w = .ok (.func fn first cap) w := fun _ _ _ _ => rfl
  go_enter Tryz.func201, Tryz.ntmps201
  go_wp2_with fail
  have HVB : Hid (VarAt (W.heap.size + 1) 4 tn (.slice (some ⟨b, o, none⟩) 2 c) ((W.alloc (.cells #[] 151)).alloc (.cells #[.int .i64 4, .int .i64 tn, .slice (some ⟨b, o, none⟩) 2 c] 29))) := tuck (by
    have h := VarAt.new (W.alloc (.cells #[] 151)) 4 tn (.slice (some ⟨b, o, none⟩) 2 c)
    simpa using h)
  have HPB : Hid (FmP w0.heap.size g X W ((W.alloc (.cells #[] 151)).alloc (.cells #[.int .i64 4, .int .i64 tn, .slice (some ⟨b, o, none⟩) 2 c] 29))) := tuck (((FmP.refl hF).alloc hB _).alloc (by simp; omega) _)
  have HBB : Hid (Below w0.heap.size w0 ((W.alloc (.cells #[] 151)).alloc (.cells #[.int .i64 4, .int .i64 tn, .slice (some ⟨b, o, none⟩) 2 c] 29))) := tuck ((hW.alloc hB _).alloc (by simp; omega) _)
  generalize ((W.alloc (.cells #[] 151)).alloc (.cells #[.int .i64 4, .int .i64 tn, .slice (some ⟨b, o, none⟩) 2 c] 29)) = WB at *
  have hbg : W.heap.size + 1 ≠ g := by omega
  generalize W.heap.size + 1 = bb at *
  obtain ⟨zb, v0, v1, v2, vf⟩ := HVB.out.facts
  have y0 : WB.drew.cell? ⟨b, o, none⟩ = some (.int .i64 t0.kind) := (HBB.out.cell (p := ⟨b, o, none⟩) (World.block_lt_of_cell? w0 _ xt00)).trans xt00
  have y1 : WB.drew.cell? ⟨b, o + 1, none⟩ = some (.int .i64 t0.num) := (HBB.out.cell (p := ⟨b, o + 1, none⟩) (World.block_lt_of_cell? w0 _ xt01)).trans xt01
  have y2 : WB.drew.cell? ⟨b, o + 2, none⟩ = some (.slice at0 t0.kids.length ct0) := (HBB.out.cell (p := ⟨b, o + 2, none⟩) (World.block_lt_of_cell? w0 _ xt02)).trans xt02
  have y3 : WB.drew.cell? ⟨b, o + 3, none⟩ = some (.int .i64 t1.kind) := (HBB.out.cell (p := ⟨b, o + 3, none⟩) (World.block_lt_of_cell? w0 _ xt10)).trans xt10
  have y4 : WB.drew.cell? ⟨b, o + 4, none⟩ = some (.int .i64 t1.num) := (HBB.out.cell (p := ⟨b, o + 4, none⟩) (World.block_lt_of_cell? w0 _ xt11)).trans xt11
  have y5 : WB.drew.cell? ⟨b, o + 5, none⟩ = some (.slice at1 t1.kids.length ct1) := (HBB.out.cell (p := ⟨b, o + 5, none⟩) (World.block_lt_of_cell? w0 _ xt12)).trans xt12
  have HS0 : Hid ((fun w' : World => bb < w'.heap.size ∧ w'.cell? ⟨bb, 2, none⟩ = some (.slice (some ⟨b, o, none⟩) 2 c) ∧ w'.cell? ⟨b, o, none⟩ = some (.int .i64 t0.kind) ∧ w'.cell? ⟨b, o + 1, none⟩ = some (.int .i64 t0.num) ∧ w'.cell? ⟨b, o + 2, none⟩ = some (.slice at0 t0.kids.length ct0) ∧ w'.cell? ⟨b, o + 3, none⟩ = some (.int .i64 t1.kind) ∧ w'.cell? ⟨b, o + 4, none⟩ = some (.int .i64 t1.num) ∧ w'.cell? ⟨b, o + 5, none⟩ = some (.slice at1 t1.kids.length ct1)) WB.drew) := tuck ⟨zb, v2, y0, y1, y2, y3, y4, y5⟩
  have HSK : Hid (∀ w', FmP w0.heap.size g (X ++ (ByteArray.mk #[91] ++ joinB (ByteArray.mk #[93]) (txtL [t0, t1]) 2 ++ ByteArray.mk #[])) WB.drew w' → (fun w' : World => bb < w'.heap.size ∧ w'.cell? ⟨bb, 2, none⟩ = some (.slice (some ⟨b, o, none⟩) 2 c) ∧ w'.cell? ⟨b, o, none⟩ = some (.int .i64 t0.kind) ∧ w'.cell? ⟨b, o + 1, none⟩ = some (.int .i64 t0.num) ∧ w'.cell? ⟨b, o + 2, none⟩ = some (.slice at0 t0.kids.length ct0) ∧ w'.cell? ⟨b, o + 3, none⟩ = some (.int .i64 t1.kind) ∧ w'.cell? ⟨b, o + 4, none⟩ = some (.int .i64 t1.num) ∧ w'.cell? ⟨b, o + 5, none⟩ = some (.slice at1 t1.kids.length ct1)) w') := tuck fun w' h => by
    have hb := HBB.out.drew.trans h.be
    obtain ⟨zb', -, -, v2', -⟩ := ((show VarAt bb _ _ _ WB.drew from HVB.out).others h.ok hbg).facts
    exact ⟨zb', v2', (hb.cell (p := ⟨b, o, none⟩) (World.block_lt_of_cell? w0 _ xt00)).trans xt00, (hb.cell (p := ⟨b, o + 1, none⟩) (World.block_lt_of_cell? w0 _ xt01)).trans xt01, (hb.cell (p := ⟨b, o + 2, none⟩) (World.block_lt_of_cell? w0 _ xt02)).trans xt02, (hb.cell (p := ⟨b, o + 3, none⟩) (World.block_lt_of_cell? w0 _ xt10)).trans xt10, (hb.cell (p := ⟨b, o + 4, none⟩) (World.block_lt_of_cell? w0 _ xt11)).trans xt11, (hb.cell (p := ⟨b, o + 5, none⟩) (World.block_lt_of_cell? w0 _ xt12)).trans xt12⟩
  have HC := tuck (vis_lam w0 g t0 at0 ct0 ht0 hft0 t1 at1 ct1 ht1 hft1 WB.drew X HBB.out.drew HPB.out.fm.drew hsz)
  have HP : Hid (∀ W', FmP w0.heap.size g (X ++ (ByteArray.mk #[91] ++ joinB (ByteArray.mk #[93]) (txtL [t0, t1]) 2 ++ ByteArray.mk #[])) WB.drew W' → FmPost w0.heap.size g (X ++ (ByteArray.mk #[91] ++ joinB (ByteArray.mk #[93]) (txtL [t0, t1]) 2 ++ ByteArray.mk #[])) W (.returned (.tuple #[])) W') := tuck fun W' h => ⟨rfl, HPB.out.drew.trans h⟩
  generalize FmPost w0.heap.size g (X ++ (ByteArray.mk #[91] ++ joinB (ByteArray.mk #[93]) (txtL [t0, t1]) 2 ++ ByteArray.mk #[])) W = post at *
  clear ht0 hft0 xt00 xt01 xt02 ht1 hft1 xt10 xt11 xt12 hW hF hsz hrow h1 h2 hB hgW zb v0 v1 v2 vf y0 y1 y2 y3 y4 y5 HVB HBB HPB hbg
  go_region_held3 (fun w' : World => bb < w'.heap.size ∧ w'.cell? ⟨bb, 2, none⟩ = some (.slice (some ⟨b, o, none⟩) 2 c) ∧ w'.cell? ⟨b, o, none⟩ = some (.int .i64 t0.kind) ∧ w'.cell? ⟨b, o + 1, none⟩ = some (.int .i64 t0.num) ∧ w'.cell? ⟨b, o + 2, none⟩ = some (.slice at0 t0.kids.length ct0) ∧ w'.cell? ⟨b, o + 3, none⟩ = some (.int .i64 t1.kind) ∧ w'.cell? ⟨b, o + 4, none⟩ = some (.int .i64 t1.num) ∧ w'.cell? ⟨b, o + 5, none⟩ = some (.slice at1 t1.kids.length ct1)) (first | exact HS0.out | exact HSK.out _ HP2.out) (((with_reducible refine HC.out.mono ?_); rintro e w' ⟨rfl, hp⟩; have HP2 := tuck hp; clear hp))
  go_wp2_with fail
  go_end0
  exact HP.out _ HP2.out

set_option maxRecDepth 100000 in
set_option maxHeartbeats 4000000 in
theorem acc_app (w0 : World) (g : Nat) (tn : Int) (t0 : Tm) (hft0 : FmtOk w0 g t0) (t1 : Tm) (hft1 : FmtOk w0 g t1) (a : Option Addr) (c : Nat) (hs : SlIn w0 0 [t0, t1] (.slice a 2 c)) (W : World) (X : ByteArray) (hW : Below w0.heap.size w0 W) (hF : Fm w0.heap.size g X W) (hsz : X.size + (ByteArray.mk #[40] ++ joinB (ByteArray.mk #[32]) (txtL [t0, t1]) 2 ++ ByteArray.mk #[41]).size ≤ 1099511627776) :
    Calls Tryz.prog 203 #[.agg #[], .iface 53 (.pointer (some ⟨g, 0, none⟩)), .agg #[.int .i64 5, .int .i64 tn, .slice a 2 c]] W (FmPost w0.heap.size g (X ++ (ByteArray.mk #[40] ++ joinB (ByteArray.mk #[32]) (txtL [t0, t1]) 2 ++ ByteArray.mk #[41])) W) := by
  have hB : w0.heap.size ≤ W.heap.size := hW.size
  have hgW : g < W.heap.size := FIs.lt hF
  obtain ⟨a', cap, b, o, he, h1, h2, hrow⟩ := hs
  simp only [List.length_cons, List.length_nil, Nat.reduceAdd, Value.slice.injEq, true_and] at he
  obtain ⟨rfl, rfl⟩ := he
  obtain ⟨rfl, -⟩ := h2 (by simp)
  simp only [RowAt] at hrow
  obtain ⟨st0, xt00, xt01, xt02, ht0⟩ := TmAt_iff.1 (show TmAt w0 0 t0 b o from hrow.1)
  obtain ⟨at0, ct0, rfl⟩ := ht0.form
  obtain ⟨st1, xt10, xt11, xt12, ht1⟩ := TmAt_iff.1 (show TmAt w0 0 t1 b (o + 3) from hrow.2.1)
  obtain ⟨at1, ct1, rfl⟩ := ht1.form
  have hm : ∀ n w, (method (n + 1) 53 (.pointer (some ⟨g, 0, none⟩)) "loop.example/depkernel/impl.visitApp").run Tryz.prog w = .ok (156, .pointer (some ⟨g, 0, none⟩)) w := fun _ _ => by kernel_rfl
  have hna : ∀ n w, (nilAhead (n + 1) 53 (.pointer (some ⟨g, 0, none⟩)) "loop.example/depkernel/impl.visitApp").run Tryz.prog w = .ok (some false) w := fun _ _ => by kernel_rfl
  have hmf : ∀ (fn : Fn) (first cap : Array Value) (w : World), (Instr.makeFunc fn first cap).run Tryz.prog w = .ok (.func fn first cap) w := fun _ _ _ _ => rfl
  go_enter Tryz.func203, Tryz.ntmps203
  go_wp2_with fail
  have HVB : Hid (VarAt (W.heap.size + 1) 5 tn (.slice (some ⟨b, o, none⟩) 2 c) ((W.alloc (.cells #[] 152)).alloc (.cells #[.int .i64 5, .int .i64 tn, .slice (some ⟨b, o, none⟩) 2 c] 29))) := tuck (by
    have h := VarAt.new (W.alloc (.cells #[] 152)) 5 tn (.slice (some ⟨b, o, none⟩) 2 c)
    simpa using h)
  have HPB : Hid (FmP w0.heap.size g X W ((W.alloc (.cells #[] 152)).alloc (.cells #[.int .i64 5, .int .i64 tn, .slice (some ⟨b, o, none⟩) 2 c] 29))) := tuck (((FmP.refl hF).alloc hB _).alloc (by simp; omega) _)
  have HBB : Hid (Below w0.heap.size w0 ((W.alloc (.cells #[] 152)).alloc (.cells #[.int .i64 5, .int .i64 tn, .slice (some ⟨b, o, none⟩) 2 c] 29))) := tuck ((hW.alloc hB _).alloc (by simp; omega) _)
  generalize ((W.alloc (.cells #[] 152)).alloc (.cells #[.int .i64 5, .int .i64 tn, .slice (some ⟨b, o, none⟩) 2 c] 29)) = WB at *
  have hbg : W.heap.size + 1 ≠ g := by omega
  generalize W.heap.size + 1 = bb at *
  obtain ⟨zb, v0, v1, v2, vf⟩ := HVB.out.facts
  have y0 : WB.drew.cell? ⟨b, o, none⟩ = some (.int .i64 t0.kind) := (HBB.out.cell (p := ⟨b, o, none⟩) (World.block_lt_of_cell? w0 _ xt00)).trans xt00
  have y1 : WB.drew.cell? ⟨b, o + 1, none⟩ = some (.int .i64 t0.num) := (HBB.out.cell (p := ⟨b, o + 1, none⟩) (World.block_lt_of_cell? w0 _ xt01)).trans xt01
  have y2 : WB.drew.cell? ⟨b, o + 2, none⟩ = some (.slice at0 t0.kids.length ct0) := (HBB.out.cell (p := ⟨b, o + 2, none⟩) (World.block_lt_of_cell? w0 _ xt02)).trans xt02
  have y3 : WB.drew.cell? ⟨b, o + 3, none⟩ = some (.int .i64 t1.kind) := (HBB.out.cell (p := ⟨b, o + 3, none⟩) (World.block_lt_of_cell? w0 _ xt10)).trans xt10
  have y4 : WB.drew.cell? ⟨b, o + 4, none⟩ = some (.int .i64 t1.num) := (HBB.out.cell (p := ⟨b, o + 4, none⟩) (World.block_lt_of_cell? w0 _ xt11)).trans xt11
  have y5 : WB.drew.cell? ⟨b, o + 5, none⟩ = some (.slice at1 t1.kids.length ct1) := (HBB.out.cell (p := ⟨b, o + 5, none⟩) (World.block_lt_of_cell? w0 _ xt12)).trans xt12
  have HS0 : Hid ((fun w' : World => bb < w'.heap.size ∧ w'.cell? ⟨bb, 2, none⟩ = some (.slice (some ⟨b, o, none⟩) 2 c) ∧ w'.cell? ⟨b, o, none⟩ = some (.int .i64 t0.kind) ∧ w'.cell? ⟨b, o + 1, none⟩ = some (.int .i64 t0.num) ∧ w'.cell? ⟨b, o + 2, none⟩ = some (.slice at0 t0.kids.length ct0) ∧ w'.cell? ⟨b, o + 3, none⟩ = some (.int .i64 t1.kind) ∧ w'.cell? ⟨b, o + 4, none⟩ = some (.int .i64 t1.num) ∧ w'.cell? ⟨b, o + 5, none⟩ = some (.slice at1 t1.kids.length ct1)) WB.drew) := tuck ⟨zb, v2, y0, y1, y2, y3, y4, y5⟩
  have HSK : Hid (∀ w', FmP w0.heap.size g (X ++ (ByteArray.mk #[40] ++ joinB (ByteArray.mk #[32]) (txtL [t0, t1]) 2 ++ ByteArray.mk #[41])) WB.drew w' → (fun w' : World => bb < w'.heap.size ∧ w'.cell? ⟨bb, 2, none⟩ = some (.slice (some ⟨b, o, none⟩) 2 c) ∧ w'.cell? ⟨b, o, none⟩ = some (.int .i64 t0.kind) ∧ w'.cell? ⟨b, o + 1, none⟩ = some (.int .i64 t0.num) ∧ w'.cell? ⟨b, o + 2, none⟩ = some (.slice at0 t0.kids.length ct0) ∧ w'.cell? ⟨b, o + 3, none⟩ = some (.int .i64 t1.kind) ∧ w'.cell? ⟨b, o + 4, none⟩ = some (.int .i64 t1.num) ∧ w'.cell? ⟨b, o + 5, none⟩ = some (.slice at1 t1.kids.length ct1)) w') := tuck fun w' h => by
    have hb := HBB.out.drew.trans h.be
    obtain ⟨zb', -, -, v2', -⟩ := ((show VarAt bb _ _ _ WB.drew from HVB.out).others h.ok hbg).facts
    exact ⟨zb', v2', (hb.cell (p := ⟨b, o, none⟩) (World.block_lt_of_cell? w0 _ xt00)).trans xt00, (hb.cell (p := ⟨b, o + 1, none⟩) (World.block_lt_of_cell? w0 _ xt01)).trans xt01, (hb.cell (p := ⟨b, o + 2, none⟩) (World.block_lt_of_cell? w0 _ xt02)).trans xt02, (hb.cell (p := ⟨b, o + 3, none⟩) (World.block_lt_of_cell? w0 _ xt10)).trans xt10, (hb.cell (p := ⟨b, o + 4, none⟩) (World.block_lt_of_cell? w0 _ xt11)).trans xt11, (hb.cell (p := ⟨b, o + 5, none⟩) (World.block_lt_of_cell? w0 _ xt12)).trans xt12⟩
  have HC := tuck (vis_app w0 g t0 at0 ct0 ht0 hft0 t1 at1 ct1 ht1 hft1 WB.drew X HBB.out.drew HPB.out.fm.drew hsz)
  have HP : Hid (∀ W', FmP w0.heap.size g (X ++ (ByteArray.mk #[40] ++ joinB (ByteArray.mk #[32]) (txtL [t0, t1]) 2 ++ ByteArray.mk #[41])) WB.drew W' → FmPost w0.heap.size g (X ++ (ByteArray.mk #[40] ++ joinB (ByteArray.mk #[32]) (txtL [t0, t1]) 2 ++ ByteArray.mk #[41])) W (.returned (.tuple #[])) W') := tuck fun W' h => ⟨rfl, HPB.out.drew.trans h⟩
  generalize FmPost w0.heap.size g (X ++ (ByteArray.mk #[40] ++ joinB (ByteArray.mk #[32]) (txtL [t0, t1]) 2 ++ ByteArray.mk #[41])) W = post at *
  clear ht0 hft0 xt00 xt01 xt02 ht1 hft1 xt10 xt11 xt12 hW hF hsz hrow h1 h2 hB hgW zb v0 v1 v2 vf y0 y1 y2 y3 y4 y5 HVB HBB HPB hbg
  go_region_held3 (fun w' : World => bb < w'.heap.size ∧ w'.cell? ⟨bb, 2, none⟩ = some (.slice (some ⟨b, o, none⟩) 2 c) ∧ w'.cell? ⟨b, o, none⟩ = some (.int .i64 t0.kind) ∧ w'.cell? ⟨b, o + 1, none⟩ = some (.int .i64 t0.num) ∧ w'.cell? ⟨b, o + 2, none⟩ = some (.slice at0 t0.kids.length ct0) ∧ w'.cell? ⟨b, o + 3, none⟩ = some (.int .i64 t1.kind) ∧ w'.cell? ⟨b, o + 4, none⟩ = some (.int .i64 t1.num) ∧ w'.cell? ⟨b, o + 5, none⟩ = some (.slice at1 t1.kids.length ct1)) (first | exact HS0.out | exact HSK.out _ HP2.out) (((with_reducible refine HC.out.mono ?_); rintro e w' ⟨rfl, hp⟩; have HP2 := tuck hp; clear hp))
  go_wp2_with fail
  go_end0
  exact HP.out _ HP2.out

set_option maxRecDepth 100000 in
set_option maxHeartbeats 4000000 in
theorem acc_succ (w0 : World) (g : Nat) (tn : Int) (t0 : Tm) (hft0 : FmtOk w0 g t0) (a : Option Addr) (c : Nat) (hs : SlIn w0 0 [t0] (.slice a 1 c)) (W : World) (X : ByteArray) (hW : Below w0.heap.size w0 W) (hF : Fm w0.heap.size g X W) (hsz : X.size + (ByteArray.mk #[43] ++ joinB (ByteArray.mk #[]) (txtL [t0]) 1 ++ ByteArray.mk #[]).size ≤ 1099511627776) :
    Calls Tryz.prog 211 #[.agg #[], .iface 53 (.pointer (some ⟨g, 0, none⟩)), .agg #[.int .i64 8, .int .i64 tn, .slice a 1 c]] W (FmPost w0.heap.size g (X ++ (ByteArray.mk #[43] ++ joinB (ByteArray.mk #[]) (txtL [t0]) 1 ++ ByteArray.mk #[])) W) := by
  have hB : w0.heap.size ≤ W.heap.size := hW.size
  have hgW : g < W.heap.size := FIs.lt hF
  obtain ⟨a', cap, b, o, he, h1, h2, hrow⟩ := hs
  simp only [List.length_cons, List.length_nil, Nat.reduceAdd, Value.slice.injEq, true_and] at he
  obtain ⟨rfl, rfl⟩ := he
  obtain ⟨rfl, -⟩ := h2 (by simp)
  simp only [RowAt] at hrow
  obtain ⟨st0, xt00, xt01, xt02, ht0⟩ := TmAt_iff.1 (show TmAt w0 0 t0 b o from hrow.1)
  obtain ⟨at0, ct0, rfl⟩ := ht0.form
  have hm : ∀ n w, (method (n + 1) 53 (.pointer (some ⟨g, 0, none⟩)) "loop.example/depkernel/impl.visitSucc").run Tryz.prog w = .ok (168, .pointer (some ⟨g, 0, none⟩)) w := fun _ _ => by kernel_rfl
  have hna : ∀ n w, (nilAhead (n + 1) 53 (.pointer (some ⟨g, 0, none⟩)) "loop.example/depkernel/impl.visitSucc").run Tryz.prog w = .ok (some false) w := fun _ _ => by kernel_rfl
  have hmf : ∀ (fn : Fn) (first cap : Array Value) (w : World), (Instr.makeFunc fn first cap).run Tryz.prog w = .ok (.func fn first cap) w := fun _ _ _ _ => rfl
  go_enter Tryz.func211, Tryz.ntmps211
  go_wp2_with fail
  have HVB : Hid (VarAt (W.heap.size + 1) 8 tn (.slice (some ⟨b, o, none⟩) 1 c) ((W.alloc (.cells #[] 157)).alloc (.cells #[.int .i64 8, .int .i64 tn, .slice (some ⟨b, o, none⟩) 1 c] 29))) := tuck (by
    have h := VarAt.new (W.alloc (.cells #[] 157)) 8 tn (.slice (some ⟨b, o, none⟩) 1 c)
    simpa using h)
  have HPB : Hid (FmP w0.heap.size g X W ((W.alloc (.cells #[] 157)).alloc (.cells #[.int .i64 8, .int .i64 tn, .slice (some ⟨b, o, none⟩) 1 c] 29))) := tuck (((FmP.refl hF).alloc hB _).alloc (by simp; omega) _)
  have HBB : Hid (Below w0.heap.size w0 ((W.alloc (.cells #[] 157)).alloc (.cells #[.int .i64 8, .int .i64 tn, .slice (some ⟨b, o, none⟩) 1 c] 29))) := tuck ((hW.alloc hB _).alloc (by simp; omega) _)
  generalize ((W.alloc (.cells #[] 157)).alloc (.cells #[.int .i64 8, .int .i64 tn, .slice (some ⟨b, o, none⟩) 1 c] 29)) = WB at *
  have hbg : W.heap.size + 1 ≠ g := by omega
  generalize W.heap.size + 1 = bb at *
  obtain ⟨zb, v0, v1, v2, vf⟩ := HVB.out.facts
  have y0 : WB.drew.cell? ⟨b, o, none⟩ = some (.int .i64 t0.kind) := (HBB.out.cell (p := ⟨b, o, none⟩) (World.block_lt_of_cell? w0 _ xt00)).trans xt00
  have y1 : WB.drew.cell? ⟨b, o + 1, none⟩ = some (.int .i64 t0.num) := (HBB.out.cell (p := ⟨b, o + 1, none⟩) (World.block_lt_of_cell? w0 _ xt01)).trans xt01
  have y2 : WB.drew.cell? ⟨b, o + 2, none⟩ = some (.slice at0 t0.kids.length ct0) := (HBB.out.cell (p := ⟨b, o + 2, none⟩) (World.block_lt_of_cell? w0 _ xt02)).trans xt02
  have HS0 : Hid ((fun w' : World => bb < w'.heap.size ∧ w'.cell? ⟨bb, 2, none⟩ = some (.slice (some ⟨b, o, none⟩) 1 c) ∧ w'.cell? ⟨b, o, none⟩ = some (.int .i64 t0.kind) ∧ w'.cell? ⟨b, o + 1, none⟩ = some (.int .i64 t0.num) ∧ w'.cell? ⟨b, o + 2, none⟩ = some (.slice at0 t0.kids.length ct0)) WB.drew) := tuck ⟨zb, v2, y0, y1, y2⟩
  have HSK : Hid (∀ w', FmP w0.heap.size g (X ++ (ByteArray.mk #[43] ++ joinB (ByteArray.mk #[]) (txtL [t0]) 1 ++ ByteArray.mk #[])) WB.drew w' → (fun w' : World => bb < w'.heap.size ∧ w'.cell? ⟨bb, 2, none⟩ = some (.slice (some ⟨b, o, none⟩) 1 c) ∧ w'.cell? ⟨b, o, none⟩ = some (.int .i64 t0.kind) ∧ w'.cell? ⟨b, o + 1, none⟩ = some (.int .i64 t0.num) ∧ w'.cell? ⟨b, o + 2, none⟩ = some (.slice at0 t0.kids.length ct0)) w') := tuck fun w' h => by
    have hb := HBB.out.drew.trans h.be
    obtain ⟨zb', -, -, v2', -⟩ := ((show VarAt bb _ _ _ WB.drew from HVB.out).others h.ok hbg).facts
    exact ⟨zb', v2', (hb.cell (p := ⟨b, o, none⟩) (World.block_lt_of_cell? w0 _ xt00)).trans xt00, (hb.cell (p := ⟨b, o + 1, none⟩) (World.block_lt_of_cell? w0 _ xt01)).trans xt01, (hb.cell (p := ⟨b, o + 2, none⟩) (World.block_lt_of_cell? w0 _ xt02)).trans xt02⟩
  have HC := tuck (vis_succ w0 g t0 at0 ct0 ht0 hft0 WB.drew X HBB.out.drew HPB.out.fm.drew hsz)
  have HP : Hid (∀ W', FmP w0.heap.size g (X ++ (ByteArray.mk #[43] ++ joinB (ByteArray.mk #[]) (txtL [t0]) 1 ++ ByteArray.mk #[])) WB.drew W' → FmPost w0.heap.size g (X ++ (ByteArray.mk #[43] ++ joinB (ByteArray.mk #[]) (txtL [t0]) 1 ++ ByteArray.mk #[])) W (.returned (.tuple #[])) W') := tuck fun W' h => ⟨rfl, HPB.out.drew.trans h⟩
  generalize FmPost w0.heap.size g (X ++ (ByteArray.mk #[43] ++ joinB (ByteArray.mk #[]) (txtL [t0]) 1 ++ ByteArray.mk #[])) W = post at *
  clear ht0 hft0 xt00 xt01 xt02 hW hF hsz hrow h1 h2 hB hgW zb v0 v1 v2 vf y0 y1 y2 HVB HBB HPB hbg
  go_region_held3 (fun w' : World => bb < w'.heap.size ∧ w'.cell? ⟨bb, 2, none⟩ = some (.slice (some ⟨b, o, none⟩) 1 c) ∧ w'.cell? ⟨b, o, none⟩ = some (.int .i64 t0.kind) ∧ w'.cell? ⟨b, o + 1, none⟩ = some (.int .i64 t0.num) ∧ w'.cell? ⟨b, o + 2, none⟩ = some (.slice at0 t0.kids.length ct0)) (first | exact HS0.out | exact HSK.out _ HP2.out) (((with_reducible refine HC.out.mono ?_); rintro e w' ⟨rfl, hp⟩; have HP2 := tuck hp; clear hp))
  go_wp2_with fail
  go_end0
  exact HP.out _ HP2.out

set_option maxRecDepth 100000 in
set_option maxHeartbeats 4000000 in
theorem acc_elim (w0 : World) (g : Nat) (tn : Int) (t0 : Tm) (hft0 : FmtOk w0 g t0) (t1 : Tm) (hft1 : FmtOk w0 g t1) (t2 : Tm) (hft2 : FmtOk w0 g t2) (t3 : Tm) (hft3 : FmtOk w0 g t3) (a : Option Addr) (c : Nat) (hs : SlIn w0 0 [t0, t1, t2, t3] (.slice a 4 c)) (W : World) (X : ByteArray) (hW : Below w0.heap.size w0 W) (hF : Fm w0.heap.size g X W) (hsz : X.size + (ByteArray.mk #[60] ++ joinB (ByteArray.mk #[44]) (txtL [t0, t1, t2, t3]) 4 ++ ByteArray.mk #[62]).size ≤ 1099511627776) :
    Calls Tryz.prog 214 #[.agg #[], .iface 53 (.pointer (some ⟨g, 0, none⟩)), .agg #[.int .i64 9, .int .i64 tn, .slice a 4 c]] W (FmPost w0.heap.size g (X ++ (ByteArray.mk #[60] ++ joinB (ByteArray.mk #[44]) (txtL [t0, t1, t2, t3]) 4 ++ ByteArray.mk #[62])) W) := by
  have hB : w0.heap.size ≤ W.heap.size := hW.size
  have hgW : g < W.heap.size := FIs.lt hF
  obtain ⟨a', cap, b, o, he, h1, h2, hrow⟩ := hs
  simp only [List.length_cons, List.length_nil, Nat.reduceAdd, Value.slice.injEq, true_and] at he
  obtain ⟨rfl, rfl⟩ := he
  obtain ⟨rfl, -⟩ := h2 (by simp)
  simp only [RowAt] at hrow
  obtain ⟨st0, xt00, xt01, xt02, ht0⟩ := TmAt_iff.1 (show TmAt w0 0 t0 b o from hrow.1)
  obtain ⟨at0, ct0, rfl⟩ := ht0.form
  obtain ⟨st1, xt10, xt11, xt12, ht1⟩ := TmAt_iff.1 (show TmAt w0 0 t1 b (o + 3) from hrow.2.1)
  obtain ⟨at1, ct1, rfl⟩ := ht1.form
  obtain ⟨st2, xt20, xt21, xt22, ht2⟩ := TmAt_iff.1 (show TmAt w0 0 t2 b (o + 6) from hrow.2.2.1)
  obtain ⟨at2, ct2, rfl⟩ := ht2.form
  obtain ⟨st3, xt30, xt31, xt32, ht3⟩ := TmAt_iff.1 (show TmAt w0 0 t3 b (o + 9) from hrow.2.2.2.1)
  obtain ⟨at3, ct3, rfl⟩ := ht3.form
  have hm : ∀ n w, (method (n + 1) 53 (.pointer (some ⟨g, 0, none⟩)) "loop.example/depkernel/impl.visitElim").run Tryz.prog w = .ok (157, .pointer (some ⟨g, 0, none⟩)) w := fun _ _ => by kernel_rfl
  have hna : ∀ n w, (nilAhead (n + 1) 53 (.pointer (some ⟨g, 0, none⟩)) "loop.example/depkernel/impl.visitElim").run Tryz.prog w = .ok (some false) w := fun _ _ => by kernel_rfl
  have hmf : ∀ (fn : Fn) (first cap : Array Value) (w : World), (Instr.makeFunc fn first cap).run Tryz.prog w = .ok (.func fn first cap) w := fun _ _ _ _ => rfl
  go_enter Tryz.func214, Tryz.ntmps214
  go_wp2_with fail
  have HVB : Hid (VarAt (W.heap.size + 1) 9 tn (.slice (some ⟨b, o, none⟩) 4 c) ((W.alloc (.cells #[] 160)).alloc (.cells #[.int .i64 9, .int .i64 tn, .slice (some ⟨b, o, none⟩) 4 c] 29))) := tuck (by
    have h := VarAt.new (W.alloc (.cells #[] 160)) 9 tn (.slice (some ⟨b, o, none⟩) 4 c)
    simpa using h)
  have HPB : Hid (FmP w0.heap.size g X W ((W.alloc (.cells #[] 160)).alloc (.cells #[.int .i64 9, .int .i64 tn, .slice (some ⟨b, o, none⟩) 4 c] 29))) := tuck (((FmP.refl hF).alloc hB _).alloc (by simp; omega) _)
  have HBB : Hid (Below w0.heap.size w0 ((W.alloc (.cells #[] 160)).alloc (.cells #[.int .i64 9, .int .i64 tn, .slice (some ⟨b, o, none⟩) 4 c] 29))) := tuck ((hW.alloc hB _).alloc (by simp; omega) _)
  generalize ((W.alloc (.cells #[] 160)).alloc (.cells #[.int .i64 9, .int .i64 tn, .slice (some ⟨b, o, none⟩) 4 c] 29)) = WB at *
  have hbg : W.heap.size + 1 ≠ g := by omega
  generalize W.heap.size + 1 = bb at *
  obtain ⟨zb, v0, v1, v2, vf⟩ := HVB.out.facts
  have y0 : WB.drew.cell? ⟨b, o, none⟩ = some (.int .i64 t0.kind) := (HBB.out.cell (p := ⟨b, o, none⟩) (World.block_lt_of_cell? w0 _ xt00)).trans xt00
  have y1 : WB.drew.cell? ⟨b, o + 1, none⟩ = some (.int .i64 t0.num) := (HBB.out.cell (p := ⟨b, o + 1, none⟩) (World.block_lt_of_cell? w0 _ xt01)).trans xt01
  have y2 : WB.drew.cell? ⟨b, o + 2, none⟩ = some (.slice at0 t0.kids.length ct0) := (HBB.out.cell (p := ⟨b, o + 2, none⟩) (World.block_lt_of_cell? w0 _ xt02)).trans xt02
  have y3 : WB.drew.cell? ⟨b, o + 3, none⟩ = some (.int .i64 t1.kind) := (HBB.out.cell (p := ⟨b, o + 3, none⟩) (World.block_lt_of_cell? w0 _ xt10)).trans xt10
  have y4 : WB.drew.cell? ⟨b, o + 4, none⟩ = some (.int .i64 t1.num) := (HBB.out.cell (p := ⟨b, o + 4, none⟩) (World.block_lt_of_cell? w0 _ xt11)).trans xt11
  have y5 : WB.drew.cell? ⟨b, o + 5, none⟩ = some (.slice at1 t1.kids.length ct1) := (HBB.out.cell (p := ⟨b, o + 5, none⟩) (World.block_lt_of_cell? w0 _ xt12)).trans xt12
  have y6 : WB.drew.cell? ⟨b, o + 6, none⟩ = some (.int .i64 t2.kind) := (HBB.out.cell (p := ⟨b, o + 6, none⟩) (World.block_lt_of_cell? w0 _ xt20)).trans xt20
  have y7 : WB.drew.cell? ⟨b, o + 7, none⟩ = some (.int .i64 t2.num) := (HBB.out.cell (p := ⟨b, o + 7, none⟩) (World.block_lt_of_cell? w0 _ xt21)).trans xt21
  have y8 : WB.drew.cell? ⟨b, o + 8, none⟩ = some (.slice at2 t2.kids.length ct2) := (HBB.out.cell (p := ⟨b, o + 8, none⟩) (World.block_lt_of_cell? w0 _ xt22)).trans xt22
  have y9 : WB.drew.cell? ⟨b, o + 9, none⟩ = some (.int .i64 t3.kind) := (HBB.out.cell (p := ⟨b, o + 9, none⟩) (World.block_lt_of_cell? w0 _ xt30)).trans xt30
  have y10 : WB.drew.cell? ⟨b, o + 10, none⟩ = some (.int .i64 t3.num) := (HBB.out.cell (p := ⟨b, o + 10, none⟩) (World.block_lt_of_cell? w0 _ xt31)).trans xt31
  have y11 : WB.drew.cell? ⟨b, o + 11, none⟩ = some (.slice at3 t3.kids.length ct3) := (HBB.out.cell (p := ⟨b, o + 11, none⟩) (World.block_lt_of_cell? w0 _ xt32)).trans xt32
  have HS0 : Hid ((fun w' : World => bb < w'.heap.size ∧ w'.cell? ⟨bb, 2, none⟩ = some (.slice (some ⟨b, o, none⟩) 4 c) ∧ w'.cell? ⟨b, o, none⟩ = some (.int .i64 t0.kind) ∧ w'.cell? ⟨b, o + 1, none⟩ = some (.int .i64 t0.num) ∧ w'.cell? ⟨b, o + 2, none⟩ = some (.slice at0 t0.kids.length ct0) ∧ w'.cell? ⟨b, o + 3, none⟩ = some (.int .i64 t1.kind) ∧ w'.cell? ⟨b, o + 4, none⟩ = some (.int .i64 t1.num) ∧ w'.cell? ⟨b, o + 5, none⟩ = some (.slice at1 t1.kids.length ct1) ∧ w'.cell? ⟨b, o + 6, none⟩ = some (.int .i64 t2.kind) ∧ w'.cell? ⟨b, o + 7, none⟩ = some (.int .i64 t2.num) ∧ w'.cell? ⟨b, o + 8, none⟩ = some (.slice at2 t2.kids.length ct2) ∧ w'.cell? ⟨b, o + 9, none⟩ = some (.int .i64 t3.kind) ∧ w'.cell? ⟨b, o + 10, none⟩ = some (.int .i64 t3.num) ∧ w'.cell? ⟨b, o + 11, none⟩ = some (.slice at3 t3.kids.length ct3)) WB.drew) := tuck ⟨zb, v2, y0, y1, y2, y3, y4, y5, y6, y7, y8, y9, y10, y11⟩
  have HSK : Hid (∀ w', FmP w0.heap.size g (X ++ (ByteArray.mk #[60] ++ joinB (ByteArray.mk #[44]) (txtL [t0, t1, t2, t3]) 4 ++ ByteArray.mk #[62])) WB.drew w' → (fun w' : World => bb < w'.heap.size ∧ w'.cell? ⟨bb, 2, none⟩ = some (.slice (some ⟨b, o, none⟩) 4 c) ∧ w'.cell? ⟨b, o, none⟩ = some (.int .i64 t0.kind) ∧ w'.cell? ⟨b, o + 1, none⟩ = some (.int .i64 t0.num) ∧ w'.cell? ⟨b, o + 2, none⟩ = some (.slice at0 t0.kids.length ct0) ∧ w'.cell? ⟨b, o + 3, none⟩ = some (.int .i64 t1.kind) ∧ w'.cell? ⟨b, o + 4, none⟩ = some (.int .i64 t1.num) ∧ w'.cell? ⟨b, o + 5, none⟩ = some (.slice at1 t1.kids.length ct1) ∧ w'.cell? ⟨b, o + 6, none⟩ = some (.int .i64 t2.kind) ∧ w'.cell? ⟨b, o + 7, none⟩ = some (.int .i64 t2.num) ∧ w'.cell? ⟨b, o + 8, none⟩ = some (.slice at2 t2.kids.length ct2) ∧ w'.cell? ⟨b, o + 9, none⟩ = some (.int .i64 t3.kind) ∧ w'.cell? ⟨b, o + 10, none⟩ = some (.int .i64 t3.num) ∧ w'.cell? ⟨b, o + 11, none⟩ = some (.slice at3 t3.kids.length ct3)) w') := tuck fun w' h => by
    have hb := HBB.out.drew.trans h.be
    obtain ⟨zb', -, -, v2', -⟩ := ((show VarAt bb _ _ _ WB.drew from HVB.out).others h.ok hbg).facts
    exact ⟨zb', v2', (hb.cell (p := ⟨b, o, none⟩) (World.block_lt_of_cell? w0 _ xt00)).trans xt00, (hb.cell (p := ⟨b, o + 1, none⟩) (World.block_lt_of_cell? w0 _ xt01)).trans xt01, (hb.cell (p := ⟨b, o + 2, none⟩) (World.block_lt_of_cell? w0 _ xt02)).trans xt02, (hb.cell (p := ⟨b, o + 3, none⟩) (World.block_lt_of_cell? w0 _ xt10)).trans xt10, (hb.cell (p := ⟨b, o + 4, none⟩) (World.block_lt_of_cell? w0 _ xt11)).trans xt11, (hb.cell (p := ⟨b, o + 5, none⟩) (World.block_lt_of_cell? w0 _ xt12)).trans xt12, (hb.cell (p := ⟨b, o + 6, none⟩) (World.block_lt_of_cell? w0 _ xt20)).trans xt20, (hb.cell (p := ⟨b, o + 7, none⟩) (World.block_lt_of_cell? w0 _ xt21)).trans xt21, (hb.cell (p := ⟨b, o + 8, none⟩) (World.block_lt_of_cell? w0 _ xt22)).trans xt22, (hb.cell (p := ⟨b, o + 9, none⟩) (World.block_lt_of_cell? w0 _ xt30)).trans xt30, (hb.cell (p := ⟨b, o + 10, none⟩) (World.block_lt_of_cell? w0 _ xt31)).trans xt31, (hb.cell (p := ⟨b, o + 11, none⟩) (World.block_lt_of_cell? w0 _ xt32)).trans xt32⟩
  have HC := tuck (vis_elim w0 g t0 at0 ct0 ht0 hft0 t1 at1 ct1 ht1 hft1 t2 at2 ct2 ht2 hft2 t3 at3 ct3 ht3 hft3 WB.drew X HBB.out.drew HPB.out.fm.drew hsz)
  have HP : Hid (∀ W', FmP w0.heap.size g (X ++ (ByteArray.mk #[60] ++ joinB (ByteArray.mk #[44]) (txtL [t0, t1, t2, t3]) 4 ++ ByteArray.mk #[62])) WB.drew W' → FmPost w0.heap.size g (X ++ (ByteArray.mk #[60] ++ joinB (ByteArray.mk #[44]) (txtL [t0, t1, t2, t3]) 4 ++ ByteArray.mk #[62])) W (.returned (.tuple #[])) W') := tuck fun W' h => ⟨rfl, HPB.out.drew.trans h⟩
  generalize FmPost w0.heap.size g (X ++ (ByteArray.mk #[60] ++ joinB (ByteArray.mk #[44]) (txtL [t0, t1, t2, t3]) 4 ++ ByteArray.mk #[62])) W = post at *
  clear ht0 hft0 xt00 xt01 xt02 ht1 hft1 xt10 xt11 xt12 ht2 hft2 xt20 xt21 xt22 ht3 hft3 xt30 xt31 xt32 hW hF hsz hrow h1 h2 hB hgW zb v0 v1 v2 vf y0 y1 y2 y3 y4 y5 y6 y7 y8 y9 y10 y11 HVB HBB HPB hbg
  go_region_held3 (fun w' : World => bb < w'.heap.size ∧ w'.cell? ⟨bb, 2, none⟩ = some (.slice (some ⟨b, o, none⟩) 4 c) ∧ w'.cell? ⟨b, o, none⟩ = some (.int .i64 t0.kind) ∧ w'.cell? ⟨b, o + 1, none⟩ = some (.int .i64 t0.num) ∧ w'.cell? ⟨b, o + 2, none⟩ = some (.slice at0 t0.kids.length ct0) ∧ w'.cell? ⟨b, o + 3, none⟩ = some (.int .i64 t1.kind) ∧ w'.cell? ⟨b, o + 4, none⟩ = some (.int .i64 t1.num) ∧ w'.cell? ⟨b, o + 5, none⟩ = some (.slice at1 t1.kids.length ct1) ∧ w'.cell? ⟨b, o + 6, none⟩ = some (.int .i64 t2.kind) ∧ w'.cell? ⟨b, o + 7, none⟩ = some (.int .i64 t2.num) ∧ w'.cell? ⟨b, o + 8, none⟩ = some (.slice at2 t2.kids.length ct2) ∧ w'.cell? ⟨b, o + 9, none⟩ = some (.int .i64 t3.kind) ∧ w'.cell? ⟨b, o + 10, none⟩ = some (.int .i64 t3.num) ∧ w'.cell? ⟨b, o + 11, none⟩ = some (.slice at3 t3.kids.length ct3)) (first | exact HS0.out | exact HSK.out _ HP2.out) (((with_reducible refine HC.out.mono ?_); rintro e w' ⟨rfl, hp⟩; have HP2 := tuck hp; clear hp))
  go_wp2_with fail
  go_end0
  exact HP.out _ HP2.out

set_option maxRecDepth 100000 in
set_option maxHeartbeats 4000000 in
theorem acc_id (w0 : World) (g : Nat) (tn : Int) (t0 : Tm) (hft0 : FmtOk w0 g t0) (t1 : Tm) (hft1 : FmtOk w0 g t1) (t2 : Tm) (hft2 : FmtOk w0 g t2) (a : Option Addr) (c : Nat) (hs : SlIn w0 0 [t0, t1, t2] (.slice a 3 c)) (W : World) (X : ByteArray) (hW : Below w0.heap.size w0 W) (hF : Fm w0.heap.size g X W) (hsz : X.size + (ByteArray.mk #[123] ++ joinB (ByteArray.mk #[44]) (txtL [t0, t1, t2]) 3 ++ ByteArray.mk #[125]).size ≤ 1099511627776) :
    Calls Tryz.prog 217 #[.agg #[], .iface 53 (.pointer (some ⟨g, 0, none⟩)), .agg #[.int .i64 10, .int .i64 tn, .slice a 3 c]] W (FmPost w0.heap.size g (X ++ (ByteArray.mk #[123] ++ joinB (ByteArray.mk #[44]) (txtL [t0, t1, t2]) 3 ++ ByteArray.mk #[125])) W) := by
  have hB : w0.heap.size ≤ W.heap.size := hW.size
  have hgW : g < W.heap.size := FIs.lt hF
  obtain ⟨a', cap, b, o, he, h1, h2, hrow⟩ := hs
  simp only [List.length_cons, List.length_nil, Nat.reduceAdd, Value.slice.injEq, true_and] at he
  obtain ⟨rfl, rfl⟩ := he
  obtain ⟨rfl, -⟩ := h2 (by simp)
  simp only [RowAt] at hrow
  obtain ⟨st0, xt00, xt01, xt02, ht0⟩ := TmAt_iff.1 (show TmAt w0 0 t0 b o from hrow.1)
  obtain ⟨at0, ct0, rfl⟩ := ht0.form
  obtain ⟨st1, xt10, xt11, xt12, ht1⟩ := TmAt_iff.1 (show TmAt w0 0 t1 b (o + 3) from hrow.2.1)
  obtain ⟨at1, ct1, rfl⟩ := ht1.form
  obtain ⟨st2, xt20, xt21, xt22, ht2⟩ := TmAt_iff.1 (show TmAt w0 0 t2 b (o + 6) from hrow.2.2.1)
  obtain ⟨at2, ct2, rfl⟩ := ht2.form
  have hm : ∀ n w, (method (n + 1) 53 (.pointer (some ⟨g, 0, none⟩)) "loop.example/depkernel/impl.visitId").run Tryz.prog w = .ok (159, .pointer (some ⟨g, 0, none⟩)) w := fun _ _ => by kernel_rfl
  have hna : ∀ n w, (nilAhead (n + 1) 53 (.pointer (some ⟨g, 0, none⟩)) "loop.example/depkernel/impl.visitId").run Tryz.prog w = .ok (some false) w := fun _ _ => by kernel_rfl
  have hmf : ∀ (fn : Fn) (first cap : Array Value) (w : World), (Instr.makeFunc fn first cap).run Tryz.prog w = .ok (.func fn first cap) w := fun _ _ _ _ => rfl
  go_enter Tryz.func217, Tryz.ntmps217
  go_wp2_with fail
  have HVB : Hid (VarAt (W.heap.size + 1) 10 tn (.slice (some ⟨b, o, none⟩) 3 c) ((W.alloc (.cells #[] 163)).alloc (.cells #[.int .i64 10, .int .i64 tn, .slice (some ⟨b, o, none⟩) 3 c] 29))) := tuck (by
    have h := VarAt.new (W.alloc (.cells #[] 163)) 10 tn (.slice (some ⟨b, o, none⟩) 3 c)
    simpa using h)
  have HPB : Hid (FmP w0.heap.size g X W ((W.alloc (.cells #[] 163)).alloc (.cells #[.int .i64 10, .int .i64 tn, .slice (some ⟨b, o, none⟩) 3 c] 29))) := tuck (((FmP.refl hF).alloc hB _).alloc (by simp; omega) _)
  have HBB : Hid (Below w0.heap.size w0 ((W.alloc (.cells #[] 163)).alloc (.cells #[.int .i64 10, .int .i64 tn, .slice (some ⟨b, o, none⟩) 3 c] 29))) := tuck ((hW.alloc hB _).alloc (by simp; omega) _)
  generalize ((W.alloc (.cells #[] 163)).alloc (.cells #[.int .i64 10, .int .i64 tn, .slice (some ⟨b, o, none⟩) 3 c] 29)) = WB at *
  have hbg : W.heap.size + 1 ≠ g := by omega
  generalize W.heap.size + 1 = bb at *
  obtain ⟨zb, v0, v1, v2, vf⟩ := HVB.out.facts
  have y0 : WB.drew.cell? ⟨b, o, none⟩ = some (.int .i64 t0.kind) := (HBB.out.cell (p := ⟨b, o, none⟩) (World.block_lt_of_cell? w0 _ xt00)).trans xt00
  have y1 : WB.drew.cell? ⟨b, o + 1, none⟩ = some (.int .i64 t0.num) := (HBB.out.cell (p := ⟨b, o + 1, none⟩) (World.block_lt_of_cell? w0 _ xt01)).trans xt01
  have y2 : WB.drew.cell? ⟨b, o + 2, none⟩ = some (.slice at0 t0.kids.length ct0) := (HBB.out.cell (p := ⟨b, o + 2, none⟩) (World.block_lt_of_cell? w0 _ xt02)).trans xt02
  have y3 : WB.drew.cell? ⟨b, o + 3, none⟩ = some (.int .i64 t1.kind) := (HBB.out.cell (p := ⟨b, o + 3, none⟩) (World.block_lt_of_cell? w0 _ xt10)).trans xt10
  have y4 : WB.drew.cell? ⟨b, o + 4, none⟩ = some (.int .i64 t1.num) := (HBB.out.cell (p := ⟨b, o + 4, none⟩) (World.block_lt_of_cell? w0 _ xt11)).trans xt11
  have y5 : WB.drew.cell? ⟨b, o + 5, none⟩ = some (.slice at1 t1.kids.length ct1) := (HBB.out.cell (p := ⟨b, o + 5, none⟩) (World.block_lt_of_cell? w0 _ xt12)).trans xt12
  have y6 : WB.drew.cell? ⟨b, o + 6, none⟩ = some (.int .i64 t2.kind) := (HBB.out.cell (p := ⟨b, o + 6, none⟩) (World.block_lt_of_cell? w0 _ xt20)).trans xt20
  have y7 : WB.drew.cell? ⟨b, o + 7, none⟩ = some (.int .i64 t2.num) := (HBB.out.cell (p := ⟨b, o + 7, none⟩) (World.block_lt_of_cell? w0 _ xt21)).trans xt21
  have y8 : WB.drew.cell? ⟨b, o + 8, none⟩ = some (.slice at2 t2.kids.length ct2) := (HBB.out.cell (p := ⟨b, o + 8, none⟩) (World.block_lt_of_cell? w0 _ xt22)).trans xt22
  have HS0 : Hid ((fun w' : World => bb < w'.heap.size ∧ w'.cell? ⟨bb, 2, none⟩ = some (.slice (some ⟨b, o, none⟩) 3 c) ∧ w'.cell? ⟨b, o, none⟩ = some (.int .i64 t0.kind) ∧ w'.cell? ⟨b, o + 1, none⟩ = some (.int .i64 t0.num) ∧ w'.cell? ⟨b, o + 2, none⟩ = some (.slice at0 t0.kids.length ct0) ∧ w'.cell? ⟨b, o + 3, none⟩ = some (.int .i64 t1.kind) ∧ w'.cell? ⟨b, o + 4, none⟩ = some (.int .i64 t1.num) ∧ w'.cell? ⟨b, o + 5, none⟩ = some (.slice at1 t1.kids.length ct1) ∧ w'.cell? ⟨b, o + 6, none⟩ = some (.int .i64 t2.kind) ∧ w'.cell? ⟨b, o + 7, none⟩ = some (.int .i64 t2.num) ∧ w'.cell? ⟨b, o + 8, none⟩ = some (.slice at2 t2.kids.length ct2)) WB.drew) := tuck ⟨zb, v2, y0, y1, y2, y3, y4, y5, y6, y7, y8⟩
  have HSK : Hid (∀ w', FmP w0.heap.size g (X ++ (ByteArray.mk #[123] ++ joinB (ByteArray.mk #[44]) (txtL [t0, t1, t2]) 3 ++ ByteArray.mk #[125])) WB.drew w' → (fun w' : World => bb < w'.heap.size ∧ w'.cell? ⟨bb, 2, none⟩ = some (.slice (some ⟨b, o, none⟩) 3 c) ∧ w'.cell? ⟨b, o, none⟩ = some (.int .i64 t0.kind) ∧ w'.cell? ⟨b, o + 1, none⟩ = some (.int .i64 t0.num) ∧ w'.cell? ⟨b, o + 2, none⟩ = some (.slice at0 t0.kids.length ct0) ∧ w'.cell? ⟨b, o + 3, none⟩ = some (.int .i64 t1.kind) ∧ w'.cell? ⟨b, o + 4, none⟩ = some (.int .i64 t1.num) ∧ w'.cell? ⟨b, o + 5, none⟩ = some (.slice at1 t1.kids.length ct1) ∧ w'.cell? ⟨b, o + 6, none⟩ = some (.int .i64 t2.kind) ∧ w'.cell? ⟨b, o + 7, none⟩ = some (.int .i64 t2.num) ∧ w'.cell? ⟨b, o + 8, none⟩ = some (.slice at2 t2.kids.length ct2)) w') := tuck fun w' h => by
    have hb := HBB.out.drew.trans h.be
    obtain ⟨zb', -, -, v2', -⟩ := ((show VarAt bb _ _ _ WB.drew from HVB.out).others h.ok hbg).facts
    exact ⟨zb', v2', (hb.cell (p := ⟨b, o, none⟩) (World.block_lt_of_cell? w0 _ xt00)).trans xt00, (hb.cell (p := ⟨b, o + 1, none⟩) (World.block_lt_of_cell? w0 _ xt01)).trans xt01, (hb.cell (p := ⟨b, o + 2, none⟩) (World.block_lt_of_cell? w0 _ xt02)).trans xt02, (hb.cell (p := ⟨b, o + 3, none⟩) (World.block_lt_of_cell? w0 _ xt10)).trans xt10, (hb.cell (p := ⟨b, o + 4, none⟩) (World.block_lt_of_cell? w0 _ xt11)).trans xt11, (hb.cell (p := ⟨b, o + 5, none⟩) (World.block_lt_of_cell? w0 _ xt12)).trans xt12, (hb.cell (p := ⟨b, o + 6, none⟩) (World.block_lt_of_cell? w0 _ xt20)).trans xt20, (hb.cell (p := ⟨b, o + 7, none⟩) (World.block_lt_of_cell? w0 _ xt21)).trans xt21, (hb.cell (p := ⟨b, o + 8, none⟩) (World.block_lt_of_cell? w0 _ xt22)).trans xt22⟩
  have HC := tuck (vis_id w0 g t0 at0 ct0 ht0 hft0 t1 at1 ct1 ht1 hft1 t2 at2 ct2 ht2 hft2 WB.drew X HBB.out.drew HPB.out.fm.drew hsz)
  have HP : Hid (∀ W', FmP w0.heap.size g (X ++ (ByteArray.mk #[123] ++ joinB (ByteArray.mk #[44]) (txtL [t0, t1, t2]) 3 ++ ByteArray.mk #[125])) WB.drew W' → FmPost w0.heap.size g (X ++ (ByteArray.mk #[123] ++ joinB (ByteArray.mk #[44]) (txtL [t0, t1, t2]) 3 ++ ByteArray.mk #[125])) W (.returned (.tuple #[])) W') := tuck fun W' h => ⟨rfl, HPB.out.drew.trans h⟩
  generalize FmPost w0.heap.size g (X ++ (ByteArray.mk #[123] ++ joinB (ByteArray.mk #[44]) (txtL [t0, t1, t2]) 3 ++ ByteArray.mk #[125])) W = post at *
  clear ht0 hft0 xt00 xt01 xt02 ht1 hft1 xt10 xt11 xt12 ht2 hft2 xt20 xt21 xt22 hW hF hsz hrow h1 h2 hB hgW zb v0 v1 v2 vf y0 y1 y2 y3 y4 y5 y6 y7 y8 HVB HBB HPB hbg
  go_region_held3 (fun w' : World => bb < w'.heap.size ∧ w'.cell? ⟨bb, 2, none⟩ = some (.slice (some ⟨b, o, none⟩) 3 c) ∧ w'.cell? ⟨b, o, none⟩ = some (.int .i64 t0.kind) ∧ w'.cell? ⟨b, o + 1, none⟩ = some (.int .i64 t0.num) ∧ w'.cell? ⟨b, o + 2, none⟩ = some (.slice at0 t0.kids.length ct0) ∧ w'.cell? ⟨b, o + 3, none⟩ = some (.int .i64 t1.kind) ∧ w'.cell? ⟨b, o + 4, none⟩ = some (.int .i64 t1.num) ∧ w'.cell? ⟨b, o + 5, none⟩ = some (.slice at1 t1.kids.length ct1) ∧ w'.cell? ⟨b, o + 6, none⟩ = some (.int .i64 t2.kind) ∧ w'.cell? ⟨b, o + 7, none⟩ = some (.int .i64 t2.num) ∧ w'.cell? ⟨b, o + 8, none⟩ = some (.slice at2 t2.kids.length ct2)) (first | exact HS0.out | exact HSK.out _ HP2.out) (((with_reducible refine HC.out.mono ?_); rintro e w' ⟨rfl, hp⟩; have HP2 := tuck hp; clear hp))
  go_wp2_with fail
  go_end0
  exact HP.out _ HP2.out

set_option maxRecDepth 100000 in
set_option maxHeartbeats 4000000 in
theorem acc_refl (w0 : World) (g : Nat) (tn : Int) (t0 : Tm) (hft0 : FmtOk w0 g t0) (a : Option Addr) (c : Nat) (hs : SlIn w0 0 [t0] (.slice a 1 c)) (W : World) (X : ByteArray) (hW : Below w0.heap.size w0 W) (hF : Fm w0.heap.size g X W) (hsz : X.size + (ByteArray.mk #[33] ++ joinB (ByteArray.mk #[]) (txtL [t0]) 1 ++ ByteArray.mk #[]).size ≤ 1099511627776) :
    Calls Tryz.prog 219 #[.agg #[], .iface 53 (.pointer (some ⟨g, 0, none⟩)), .agg #[.int .i64 11, .int .i64 tn, .slice a 1 c]] W (FmPost w0.heap.size g (X ++ (ByteArray.mk #[33] ++ joinB (ByteArray.mk #[]) (txtL [t0]) 1 ++ ByteArray.mk #[])) W) := by
  have hB : w0.heap.size ≤ W.heap.size := hW.size
  have hgW : g < W.heap.size := FIs.lt hF
  obtain ⟨a', cap, b, o, he, h1, h2, hrow⟩ := hs
  simp only [List.length_cons, List.length_nil, Nat.reduceAdd, Value.slice.injEq, true_and] at he
  obtain ⟨rfl, rfl⟩ := he
  obtain ⟨rfl, -⟩ := h2 (by simp)
  simp only [RowAt] at hrow
  obtain ⟨st0, xt00, xt01, xt02, ht0⟩ := TmAt_iff.1 (show TmAt w0 0 t0 b o from hrow.1)
  obtain ⟨at0, ct0, rfl⟩ := ht0.form
  have hm : ∀ n w, (method (n + 1) 53 (.pointer (some ⟨g, 0, none⟩)) "loop.example/depkernel/impl.visitRefl").run Tryz.prog w = .ok (164, .pointer (some ⟨g, 0, none⟩)) w := fun _ _ => by kernel_rfl
  have hna : ∀ n w, (nilAhead (n + 1) 53 (.pointer (some ⟨g, 0, none⟩)) "loop.example/depkernel/impl.visitRefl").run Tryz.prog w = .ok (some false) w := fun _ _ => by kernel_rfl
  have hmf : ∀ (fn : Fn) (first cap : Array Value) (w : World), (Instr.makeFunc fn first cap).run Tryz.prog w = .ok (.func fn first cap) w := fun _ _ _ _ => rfl
  go_enter Tryz.func219, Tryz.ntmps219
  go_wp2_with fail
  have HVB : Hid (VarAt (W.heap.size + 1) 11 tn (.slice (some ⟨b, o, none⟩) 1 c) ((W.alloc (.cells #[] 164)).alloc (.cells #[.int .i64 11, .int .i64 tn, .slice (some ⟨b, o, none⟩) 1 c] 29))) := tuck (by
    have h := VarAt.new (W.alloc (.cells #[] 164)) 11 tn (.slice (some ⟨b, o, none⟩) 1 c)
    simpa using h)
  have HPB : Hid (FmP w0.heap.size g X W ((W.alloc (.cells #[] 164)).alloc (.cells #[.int .i64 11, .int .i64 tn, .slice (some ⟨b, o, none⟩) 1 c] 29))) := tuck (((FmP.refl hF).alloc hB _).alloc (by simp; omega) _)
  have HBB : Hid (Below w0.heap.size w0 ((W.alloc (.cells #[] 164)).alloc (.cells #[.int .i64 11, .int .i64 tn, .slice (some ⟨b, o, none⟩) 1 c] 29))) := tuck ((hW.alloc hB _).alloc (by simp; omega) _)
  generalize ((W.alloc (.cells #[] 164)).alloc (.cells #[.int .i64 11, .int .i64 tn, .slice (some ⟨b, o, none⟩) 1 c] 29)) = WB at *
  have hbg : W.heap.size + 1 ≠ g := by omega
  generalize W.heap.size + 1 = bb at *
  obtain ⟨zb, v0, v1, v2, vf⟩ := HVB.out.facts
  have y0 : WB.drew.cell? ⟨b, o, none⟩ = some (.int .i64 t0.kind) := (HBB.out.cell (p := ⟨b, o, none⟩) (World.block_lt_of_cell? w0 _ xt00)).trans xt00
  have y1 : WB.drew.cell? ⟨b, o + 1, none⟩ = some (.int .i64 t0.num) := (HBB.out.cell (p := ⟨b, o + 1, none⟩) (World.block_lt_of_cell? w0 _ xt01)).trans xt01
  have y2 : WB.drew.cell? ⟨b, o + 2, none⟩ = some (.slice at0 t0.kids.length ct0) := (HBB.out.cell (p := ⟨b, o + 2, none⟩) (World.block_lt_of_cell? w0 _ xt02)).trans xt02
  have HS0 : Hid ((fun w' : World => bb < w'.heap.size ∧ w'.cell? ⟨bb, 2, none⟩ = some (.slice (some ⟨b, o, none⟩) 1 c) ∧ w'.cell? ⟨b, o, none⟩ = some (.int .i64 t0.kind) ∧ w'.cell? ⟨b, o + 1, none⟩ = some (.int .i64 t0.num) ∧ w'.cell? ⟨b, o + 2, none⟩ = some (.slice at0 t0.kids.length ct0)) WB.drew) := tuck ⟨zb, v2, y0, y1, y2⟩
  have HSK : Hid (∀ w', FmP w0.heap.size g (X ++ (ByteArray.mk #[33] ++ joinB (ByteArray.mk #[]) (txtL [t0]) 1 ++ ByteArray.mk #[])) WB.drew w' → (fun w' : World => bb < w'.heap.size ∧ w'.cell? ⟨bb, 2, none⟩ = some (.slice (some ⟨b, o, none⟩) 1 c) ∧ w'.cell? ⟨b, o, none⟩ = some (.int .i64 t0.kind) ∧ w'.cell? ⟨b, o + 1, none⟩ = some (.int .i64 t0.num) ∧ w'.cell? ⟨b, o + 2, none⟩ = some (.slice at0 t0.kids.length ct0)) w') := tuck fun w' h => by
    have hb := HBB.out.drew.trans h.be
    obtain ⟨zb', -, -, v2', -⟩ := ((show VarAt bb _ _ _ WB.drew from HVB.out).others h.ok hbg).facts
    exact ⟨zb', v2', (hb.cell (p := ⟨b, o, none⟩) (World.block_lt_of_cell? w0 _ xt00)).trans xt00, (hb.cell (p := ⟨b, o + 1, none⟩) (World.block_lt_of_cell? w0 _ xt01)).trans xt01, (hb.cell (p := ⟨b, o + 2, none⟩) (World.block_lt_of_cell? w0 _ xt02)).trans xt02⟩
  have HC := tuck (vis_refl w0 g t0 at0 ct0 ht0 hft0 WB.drew X HBB.out.drew HPB.out.fm.drew hsz)
  have HP : Hid (∀ W', FmP w0.heap.size g (X ++ (ByteArray.mk #[33] ++ joinB (ByteArray.mk #[]) (txtL [t0]) 1 ++ ByteArray.mk #[])) WB.drew W' → FmPost w0.heap.size g (X ++ (ByteArray.mk #[33] ++ joinB (ByteArray.mk #[]) (txtL [t0]) 1 ++ ByteArray.mk #[])) W (.returned (.tuple #[])) W') := tuck fun W' h => ⟨rfl, HPB.out.drew.trans h⟩
  generalize FmPost w0.heap.size g (X ++ (ByteArray.mk #[33] ++ joinB (ByteArray.mk #[]) (txtL [t0]) 1 ++ ByteArray.mk #[])) W = post at *
  clear ht0 hft0 xt00 xt01 xt02 hW hF hsz hrow h1 h2 hB hgW zb v0 v1 v2 vf y0 y1 y2 HVB HBB HPB hbg
  go_region_held3 (fun w' : World => bb < w'.heap.size ∧ w'.cell? ⟨bb, 2, none⟩ = some (.slice (some ⟨b, o, none⟩) 1 c) ∧ w'.cell? ⟨b, o, none⟩ = some (.int .i64 t0.kind) ∧ w'.cell? ⟨b, o + 1, none⟩ = some (.int .i64 t0.num) ∧ w'.cell? ⟨b, o + 2, none⟩ = some (.slice at0 t0.kids.length ct0)) (first | exact HS0.out | exact HSK.out _ HP2.out) (((with_reducible refine HC.out.mono ?_); rintro e w' ⟨rfl, hp⟩; have HP2 := tuck hp; clear hp))
  go_wp2_with fail
  go_end0
  exact HP.out _ HP2.out

set_option maxRecDepth 100000 in
set_option maxHeartbeats 4000000 in
theorem acc_move (w0 : World) (g : Nat) (tn : Int) (t0 : Tm) (hft0 : FmtOk w0 g t0) (t1 : Tm) (hft1 : FmtOk w0 g t1) (t2 : Tm) (hft2 : FmtOk w0 g t2) (a : Option Addr) (c : Nat) (hs : SlIn w0 0 [t0, t1, t2] (.slice a 3 c)) (W : World) (X : ByteArray) (hW : Below w0.heap.size w0 W) (hF : Fm w0.heap.size g X W) (hsz : X.size + (ByteArray.mk #[64, 60] ++ joinB (ByteArray.mk #[44]) (txtL [t0, t1, t2]) 3 ++ ByteArray.mk #[62]).size ≤ 1099511627776) :
    Calls Tryz.prog 221 #[.agg #[], .iface 53 (.pointer (some ⟨g, 0, none⟩)), .agg #[.int .i64 12, .int .i64 tn, .slice a 3 c]] W (FmPost w0.heap.size g (X ++ (ByteArray.mk #[64, 60] ++ joinB (ByteArray.mk #[44]) (txtL [t0, t1, t2]) 3 ++ ByteArray.mk #[62])) W) := by
  have hB : w0.heap.size ≤ W.heap.size := hW.size
  have hgW : g < W.heap.size := FIs.lt hF
  obtain ⟨a', cap, b, o, he, h1, h2, hrow⟩ := hs
  simp only [List.length_cons, List.length_nil, Nat.reduceAdd, Value.slice.injEq, true_and] at he
  obtain ⟨rfl, rfl⟩ := he
  obtain ⟨rfl, -⟩ := h2 (by simp)
  simp only [RowAt] at hrow
  obtain ⟨st0, xt00, xt01, xt02, ht0⟩ := TmAt_iff.1 (show TmAt w0 0 t0 b o from hrow.1)
  obtain ⟨at0, ct0, rfl⟩ := ht0.form
  obtain ⟨st1, xt10, xt11, xt12, ht1⟩ := TmAt_iff.1 (show TmAt w0 0 t1 b (o + 3) from hrow.2.1)
  obtain ⟨at1, ct1, rfl⟩ := ht1.form
  obtain ⟨st2, xt20, xt21, xt22, ht2⟩ := TmAt_iff.1 (show TmAt w0 0 t2 b (o + 6) from hrow.2.2.1)
  obtain ⟨at2, ct2, rfl⟩ := ht2.form
  have hm : ∀ n w, (method (n + 1) 53 (.pointer (some ⟨g, 0, none⟩)) "loop.example/depkernel/impl.visitMove").run Tryz.prog w = .ok (161, .pointer (some ⟨g, 0, none⟩)) w := fun _ _ => by kernel_rfl
  have hna : ∀ n w, (nilAhead (n + 1) 53 (.pointer (some ⟨g, 0, none⟩)) "loop.example/depkernel/impl.visitMove").run Tryz.prog w = .ok (some false) w := fun _ _ => by kernel_rfl
  have hmf : ∀ (fn : Fn) (first cap : Array Value) (w : World), (Instr.makeFunc fn first cap).run Tryz.prog w = .ok (.func fn first cap) w := fun _ _ _ _ => rfl
  go_enter Tryz.func221, Tryz.ntmps221
  go_wp2_with fail
  have HVB : Hid (VarAt (W.heap.size + 1) 12 tn (.slice (some ⟨b, o, none⟩) 3 c) ((W.alloc (.cells #[] 165)).alloc (.cells #[.int .i64 12, .int .i64 tn, .slice (some ⟨b, o, none⟩) 3 c] 29))) := tuck (by
    have h := VarAt.new (W.alloc (.cells #[] 165)) 12 tn (.slice (some ⟨b, o, none⟩) 3 c)
    simpa using h)
  have HPB : Hid (FmP w0.heap.size g X W ((W.alloc (.cells #[] 165)).alloc (.cells #[.int .i64 12, .int .i64 tn, .slice (some ⟨b, o, none⟩) 3 c] 29))) := tuck (((FmP.refl hF).alloc hB _).alloc (by simp; omega) _)
  have HBB : Hid (Below w0.heap.size w0 ((W.alloc (.cells #[] 165)).alloc (.cells #[.int .i64 12, .int .i64 tn, .slice (some ⟨b, o, none⟩) 3 c] 29))) := tuck ((hW.alloc hB _).alloc (by simp; omega) _)
  generalize ((W.alloc (.cells #[] 165)).alloc (.cells #[.int .i64 12, .int .i64 tn, .slice (some ⟨b, o, none⟩) 3 c] 29)) = WB at *
  have hbg : W.heap.size + 1 ≠ g := by omega
  generalize W.heap.size + 1 = bb at *
  obtain ⟨zb, v0, v1, v2, vf⟩ := HVB.out.facts
  have y0 : WB.drew.cell? ⟨b, o, none⟩ = some (.int .i64 t0.kind) := (HBB.out.cell (p := ⟨b, o, none⟩) (World.block_lt_of_cell? w0 _ xt00)).trans xt00
  have y1 : WB.drew.cell? ⟨b, o + 1, none⟩ = some (.int .i64 t0.num) := (HBB.out.cell (p := ⟨b, o + 1, none⟩) (World.block_lt_of_cell? w0 _ xt01)).trans xt01
  have y2 : WB.drew.cell? ⟨b, o + 2, none⟩ = some (.slice at0 t0.kids.length ct0) := (HBB.out.cell (p := ⟨b, o + 2, none⟩) (World.block_lt_of_cell? w0 _ xt02)).trans xt02
  have y3 : WB.drew.cell? ⟨b, o + 3, none⟩ = some (.int .i64 t1.kind) := (HBB.out.cell (p := ⟨b, o + 3, none⟩) (World.block_lt_of_cell? w0 _ xt10)).trans xt10
  have y4 : WB.drew.cell? ⟨b, o + 4, none⟩ = some (.int .i64 t1.num) := (HBB.out.cell (p := ⟨b, o + 4, none⟩) (World.block_lt_of_cell? w0 _ xt11)).trans xt11
  have y5 : WB.drew.cell? ⟨b, o + 5, none⟩ = some (.slice at1 t1.kids.length ct1) := (HBB.out.cell (p := ⟨b, o + 5, none⟩) (World.block_lt_of_cell? w0 _ xt12)).trans xt12
  have y6 : WB.drew.cell? ⟨b, o + 6, none⟩ = some (.int .i64 t2.kind) := (HBB.out.cell (p := ⟨b, o + 6, none⟩) (World.block_lt_of_cell? w0 _ xt20)).trans xt20
  have y7 : WB.drew.cell? ⟨b, o + 7, none⟩ = some (.int .i64 t2.num) := (HBB.out.cell (p := ⟨b, o + 7, none⟩) (World.block_lt_of_cell? w0 _ xt21)).trans xt21
  have y8 : WB.drew.cell? ⟨b, o + 8, none⟩ = some (.slice at2 t2.kids.length ct2) := (HBB.out.cell (p := ⟨b, o + 8, none⟩) (World.block_lt_of_cell? w0 _ xt22)).trans xt22
  have HS0 : Hid ((fun w' : World => bb < w'.heap.size ∧ w'.cell? ⟨bb, 2, none⟩ = some (.slice (some ⟨b, o, none⟩) 3 c) ∧ w'.cell? ⟨b, o, none⟩ = some (.int .i64 t0.kind) ∧ w'.cell? ⟨b, o + 1, none⟩ = some (.int .i64 t0.num) ∧ w'.cell? ⟨b, o + 2, none⟩ = some (.slice at0 t0.kids.length ct0) ∧ w'.cell? ⟨b, o + 3, none⟩ = some (.int .i64 t1.kind) ∧ w'.cell? ⟨b, o + 4, none⟩ = some (.int .i64 t1.num) ∧ w'.cell? ⟨b, o + 5, none⟩ = some (.slice at1 t1.kids.length ct1) ∧ w'.cell? ⟨b, o + 6, none⟩ = some (.int .i64 t2.kind) ∧ w'.cell? ⟨b, o + 7, none⟩ = some (.int .i64 t2.num) ∧ w'.cell? ⟨b, o + 8, none⟩ = some (.slice at2 t2.kids.length ct2)) WB.drew) := tuck ⟨zb, v2, y0, y1, y2, y3, y4, y5, y6, y7, y8⟩
  have HSK : Hid (∀ w', FmP w0.heap.size g (X ++ (ByteArray.mk #[64, 60] ++ joinB (ByteArray.mk #[44]) (txtL [t0, t1, t2]) 3 ++ ByteArray.mk #[62])) WB.drew w' → (fun w' : World => bb < w'.heap.size ∧ w'.cell? ⟨bb, 2, none⟩ = some (.slice (some ⟨b, o, none⟩) 3 c) ∧ w'.cell? ⟨b, o, none⟩ = some (.int .i64 t0.kind) ∧ w'.cell? ⟨b, o + 1, none⟩ = some (.int .i64 t0.num) ∧ w'.cell? ⟨b, o + 2, none⟩ = some (.slice at0 t0.kids.length ct0) ∧ w'.cell? ⟨b, o + 3, none⟩ = some (.int .i64 t1.kind) ∧ w'.cell? ⟨b, o + 4, none⟩ = some (.int .i64 t1.num) ∧ w'.cell? ⟨b, o + 5, none⟩ = some (.slice at1 t1.kids.length ct1) ∧ w'.cell? ⟨b, o + 6, none⟩ = some (.int .i64 t2.kind) ∧ w'.cell? ⟨b, o + 7, none⟩ = some (.int .i64 t2.num) ∧ w'.cell? ⟨b, o + 8, none⟩ = some (.slice at2 t2.kids.length ct2)) w') := tuck fun w' h => by
    have hb := HBB.out.drew.trans h.be
    obtain ⟨zb', -, -, v2', -⟩ := ((show VarAt bb _ _ _ WB.drew from HVB.out).others h.ok hbg).facts
    exact ⟨zb', v2', (hb.cell (p := ⟨b, o, none⟩) (World.block_lt_of_cell? w0 _ xt00)).trans xt00, (hb.cell (p := ⟨b, o + 1, none⟩) (World.block_lt_of_cell? w0 _ xt01)).trans xt01, (hb.cell (p := ⟨b, o + 2, none⟩) (World.block_lt_of_cell? w0 _ xt02)).trans xt02, (hb.cell (p := ⟨b, o + 3, none⟩) (World.block_lt_of_cell? w0 _ xt10)).trans xt10, (hb.cell (p := ⟨b, o + 4, none⟩) (World.block_lt_of_cell? w0 _ xt11)).trans xt11, (hb.cell (p := ⟨b, o + 5, none⟩) (World.block_lt_of_cell? w0 _ xt12)).trans xt12, (hb.cell (p := ⟨b, o + 6, none⟩) (World.block_lt_of_cell? w0 _ xt20)).trans xt20, (hb.cell (p := ⟨b, o + 7, none⟩) (World.block_lt_of_cell? w0 _ xt21)).trans xt21, (hb.cell (p := ⟨b, o + 8, none⟩) (World.block_lt_of_cell? w0 _ xt22)).trans xt22⟩
  have HC := tuck (vis_move w0 g t0 at0 ct0 ht0 hft0 t1 at1 ct1 ht1 hft1 t2 at2 ct2 ht2 hft2 WB.drew X HBB.out.drew HPB.out.fm.drew hsz)
  have HP : Hid (∀ W', FmP w0.heap.size g (X ++ (ByteArray.mk #[64, 60] ++ joinB (ByteArray.mk #[44]) (txtL [t0, t1, t2]) 3 ++ ByteArray.mk #[62])) WB.drew W' → FmPost w0.heap.size g (X ++ (ByteArray.mk #[64, 60] ++ joinB (ByteArray.mk #[44]) (txtL [t0, t1, t2]) 3 ++ ByteArray.mk #[62])) W (.returned (.tuple #[])) W') := tuck fun W' h => ⟨rfl, HPB.out.drew.trans h⟩
  generalize FmPost w0.heap.size g (X ++ (ByteArray.mk #[64, 60] ++ joinB (ByteArray.mk #[44]) (txtL [t0, t1, t2]) 3 ++ ByteArray.mk #[62])) W = post at *
  clear ht0 hft0 xt00 xt01 xt02 ht1 hft1 xt10 xt11 xt12 ht2 hft2 xt20 xt21 xt22 hW hF hsz hrow h1 h2 hB hgW zb v0 v1 v2 vf y0 y1 y2 y3 y4 y5 y6 y7 y8 HVB HBB HPB hbg
  go_region_held3 (fun w' : World => bb < w'.heap.size ∧ w'.cell? ⟨bb, 2, none⟩ = some (.slice (some ⟨b, o, none⟩) 3 c) ∧ w'.cell? ⟨b, o, none⟩ = some (.int .i64 t0.kind) ∧ w'.cell? ⟨b, o + 1, none⟩ = some (.int .i64 t0.num) ∧ w'.cell? ⟨b, o + 2, none⟩ = some (.slice at0 t0.kids.length ct0) ∧ w'.cell? ⟨b, o + 3, none⟩ = some (.int .i64 t1.kind) ∧ w'.cell? ⟨b, o + 4, none⟩ = some (.int .i64 t1.num) ∧ w'.cell? ⟨b, o + 5, none⟩ = some (.slice at1 t1.kids.length ct1) ∧ w'.cell? ⟨b, o + 6, none⟩ = some (.int .i64 t2.kind) ∧ w'.cell? ⟨b, o + 7, none⟩ = some (.int .i64 t2.num) ∧ w'.cell? ⟨b, o + 8, none⟩ = some (.slice at2 t2.kids.length ct2)) (first | exact HS0.out | exact HSK.out _ HP2.out) (((with_reducible refine HC.out.mono ?_); rintro e w' ⟨rfl, hp⟩; have HP2 := tuck hp; clear hp))
  go_wp2_with fail
  go_end0
  exact HP.out _ HP2.out

set_option maxRecDepth 100000 in
set_option maxHeartbeats 4000000 in
theorem acc_sigma (w0 : World) (g : Nat) (tn : Int) (t0 : Tm) (hft0 : FmtOk w0 g t0) (t1 : Tm) (hft1 : FmtOk w0 g t1) (a : Option Addr) (c : Nat) (hs : SlIn w0 0 [t0, t1] (.slice a 2 c)) (W : World) (X : ByteArray) (hW : Below w0.heap.size w0 W) (hF : Fm w0.heap.size g X W) (hsz : X.size + (ByteArray.mk #[40] ++ joinB (ByteArray.mk #[42]) (txtL [t0, t1]) 2 ++ ByteArray.mk #[41]).size ≤ 1099511627776) :
    Calls Tryz.prog 223 #[.agg #[], .iface 53 (.pointer (some ⟨g, 0, none⟩)), .agg #[.int .i64 13, .int .i64 tn, .slice a 2 c]] W (FmPost w0.heap.size g (X ++ (ByteArray.mk #[40] ++ joinB (ByteArray.mk #[42]) (txtL [t0, t1]) 2 ++ ByteArray.mk #[41])) W) := by
  have hB : w0.heap.size ≤ W.heap.size := hW.size
  have hgW : g < W.heap.size := FIs.lt hF
  obtain ⟨a', cap, b, o, he, h1, h2, hrow⟩ := hs
  simp only [List.length_cons, List.length_nil, Nat.reduceAdd, Value.slice.injEq, true_and] at he
  obtain ⟨rfl, rfl⟩ := he
  obtain ⟨rfl, -⟩ := h2 (by simp)
  simp only [RowAt] at hrow
  obtain ⟨st0, xt00, xt01, xt02, ht0⟩ := TmAt_iff.1 (show TmAt w0 0 t0 b o from hrow.1)
  obtain ⟨at0, ct0, rfl⟩ := ht0.form
  obtain ⟨st1, xt10, xt11, xt12, ht1⟩ := TmAt_iff.1 (show TmAt w0 0 t1 b (o + 3) from hrow.2.1)
  obtain ⟨at1, ct1, rfl⟩ := ht1.form
  have hm : ∀ n w, (method (n + 1) 53 (.pointer (some ⟨g, 0, none⟩)) "loop.example/depkernel/impl.visitSigma").run Tryz.prog w = .ok (238, .pointer (some ⟨g, 0, none⟩)) w := fun _ _ => by kernel_rfl
  have hna : ∀ n w, (nilAhead (n + 1) 53 (.pointer (some ⟨g, 0, none⟩)) "loop.example/depkernel/impl.visitSigma").run Tryz.prog w = .ok (some false) w := fun _ _ => by kernel_rfl
  have hmf : ∀ (fn : Fn) (first cap : Array Value) (w : World), (Instr.makeFunc fn first cap).run Tryz.prog w = .ok (.func fn first cap) w := fun _ _ _ _ => rfl
  go_enter Tryz.func223, Tryz.ntmps223
  go_wp2_with fail
  have HVB : Hid (VarAt (W.heap.size + 1) 13 tn (.slice (some ⟨b, o, none⟩) 2 c) ((W.alloc (.cells #[] 166)).alloc (.cells #[.int .i64 13, .int .i64 tn, .slice (some ⟨b, o, none⟩) 2 c] 29))) := tuck (by
    have h := VarAt.new (W.alloc (.cells #[] 166)) 13 tn (.slice (some ⟨b, o, none⟩) 2 c)
    simpa using h)
  have HPB : Hid (FmP w0.heap.size g X W ((W.alloc (.cells #[] 166)).alloc (.cells #[.int .i64 13, .int .i64 tn, .slice (some ⟨b, o, none⟩) 2 c] 29))) := tuck (((FmP.refl hF).alloc hB _).alloc (by simp; omega) _)
  have HBB : Hid (Below w0.heap.size w0 ((W.alloc (.cells #[] 166)).alloc (.cells #[.int .i64 13, .int .i64 tn, .slice (some ⟨b, o, none⟩) 2 c] 29))) := tuck ((hW.alloc hB _).alloc (by simp; omega) _)
  generalize ((W.alloc (.cells #[] 166)).alloc (.cells #[.int .i64 13, .int .i64 tn, .slice (some ⟨b, o, none⟩) 2 c] 29)) = WB at *
  have hbg : W.heap.size + 1 ≠ g := by omega
  generalize W.heap.size + 1 = bb at *
  obtain ⟨zb, v0, v1, v2, vf⟩ := HVB.out.facts
  have y0 : WB.drew.cell? ⟨b, o, none⟩ = some (.int .i64 t0.kind) := (HBB.out.cell (p := ⟨b, o, none⟩) (World.block_lt_of_cell? w0 _ xt00)).trans xt00
  have y1 : WB.drew.cell? ⟨b, o + 1, none⟩ = some (.int .i64 t0.num) := (HBB.out.cell (p := ⟨b, o + 1, none⟩) (World.block_lt_of_cell? w0 _ xt01)).trans xt01
  have y2 : WB.drew.cell? ⟨b, o + 2, none⟩ = some (.slice at0 t0.kids.length ct0) := (HBB.out.cell (p := ⟨b, o + 2, none⟩) (World.block_lt_of_cell? w0 _ xt02)).trans xt02
  have y3 : WB.drew.cell? ⟨b, o + 3, none⟩ = some (.int .i64 t1.kind) := (HBB.out.cell (p := ⟨b, o + 3, none⟩) (World.block_lt_of_cell? w0 _ xt10)).trans xt10
  have y4 : WB.drew.cell? ⟨b, o + 4, none⟩ = some (.int .i64 t1.num) := (HBB.out.cell (p := ⟨b, o + 4, none⟩) (World.block_lt_of_cell? w0 _ xt11)).trans xt11
  have y5 : WB.drew.cell? ⟨b, o + 5, none⟩ = some (.slice at1 t1.kids.length ct1) := (HBB.out.cell (p := ⟨b, o + 5, none⟩) (World.block_lt_of_cell? w0 _ xt12)).trans xt12
  have HS0 : Hid ((fun w' : World => bb < w'.heap.size ∧ w'.cell? ⟨bb, 2, none⟩ = some (.slice (some ⟨b, o, none⟩) 2 c) ∧ w'.cell? ⟨b, o, none⟩ = some (.int .i64 t0.kind) ∧ w'.cell? ⟨b, o + 1, none⟩ = some (.int .i64 t0.num) ∧ w'.cell? ⟨b, o + 2, none⟩ = some (.slice at0 t0.kids.length ct0) ∧ w'.cell? ⟨b, o + 3, none⟩ = some (.int .i64 t1.kind) ∧ w'.cell? ⟨b, o + 4, none⟩ = some (.int .i64 t1.num) ∧ w'.cell? ⟨b, o + 5, none⟩ = some (.slice at1 t1.kids.length ct1)) WB.drew) := tuck ⟨zb, v2, y0, y1, y2, y3, y4, y5⟩
  have HSK : Hid (∀ w', FmP w0.heap.size g (X ++ (ByteArray.mk #[40] ++ joinB (ByteArray.mk #[42]) (txtL [t0, t1]) 2 ++ ByteArray.mk #[41])) WB.drew w' → (fun w' : World => bb < w'.heap.size ∧ w'.cell? ⟨bb, 2, none⟩ = some (.slice (some ⟨b, o, none⟩) 2 c) ∧ w'.cell? ⟨b, o, none⟩ = some (.int .i64 t0.kind) ∧ w'.cell? ⟨b, o + 1, none⟩ = some (.int .i64 t0.num) ∧ w'.cell? ⟨b, o + 2, none⟩ = some (.slice at0 t0.kids.length ct0) ∧ w'.cell? ⟨b, o + 3, none⟩ = some (.int .i64 t1.kind) ∧ w'.cell? ⟨b, o + 4, none⟩ = some (.int .i64 t1.num) ∧ w'.cell? ⟨b, o + 5, none⟩ = some (.slice at1 t1.kids.length ct1)) w') := tuck fun w' h => by
    have hb := HBB.out.drew.trans h.be
    obtain ⟨zb', -, -, v2', -⟩ := ((show VarAt bb _ _ _ WB.drew from HVB.out).others h.ok hbg).facts
    exact ⟨zb', v2', (hb.cell (p := ⟨b, o, none⟩) (World.block_lt_of_cell? w0 _ xt00)).trans xt00, (hb.cell (p := ⟨b, o + 1, none⟩) (World.block_lt_of_cell? w0 _ xt01)).trans xt01, (hb.cell (p := ⟨b, o + 2, none⟩) (World.block_lt_of_cell? w0 _ xt02)).trans xt02, (hb.cell (p := ⟨b, o + 3, none⟩) (World.block_lt_of_cell? w0 _ xt10)).trans xt10, (hb.cell (p := ⟨b, o + 4, none⟩) (World.block_lt_of_cell? w0 _ xt11)).trans xt11, (hb.cell (p := ⟨b, o + 5, none⟩) (World.block_lt_of_cell? w0 _ xt12)).trans xt12⟩
  have HC := tuck (vis_sigma w0 g t0 at0 ct0 ht0 hft0 t1 at1 ct1 ht1 hft1 WB.drew X HBB.out.drew HPB.out.fm.drew hsz)
  have HP : Hid (∀ W', FmP w0.heap.size g (X ++ (ByteArray.mk #[40] ++ joinB (ByteArray.mk #[42]) (txtL [t0, t1]) 2 ++ ByteArray.mk #[41])) WB.drew W' → FmPost w0.heap.size g (X ++ (ByteArray.mk #[40] ++ joinB (ByteArray.mk #[42]) (txtL [t0, t1]) 2 ++ ByteArray.mk #[41])) W (.returned (.tuple #[])) W') := tuck fun W' h => ⟨rfl, HPB.out.drew.trans h⟩
  generalize FmPost w0.heap.size g (X ++ (ByteArray.mk #[40] ++ joinB (ByteArray.mk #[42]) (txtL [t0, t1]) 2 ++ ByteArray.mk #[41])) W = post at *
  clear ht0 hft0 xt00 xt01 xt02 ht1 hft1 xt10 xt11 xt12 hW hF hsz hrow h1 h2 hB hgW zb v0 v1 v2 vf y0 y1 y2 y3 y4 y5 HVB HBB HPB hbg
  go_region_held3 (fun w' : World => bb < w'.heap.size ∧ w'.cell? ⟨bb, 2, none⟩ = some (.slice (some ⟨b, o, none⟩) 2 c) ∧ w'.cell? ⟨b, o, none⟩ = some (.int .i64 t0.kind) ∧ w'.cell? ⟨b, o + 1, none⟩ = some (.int .i64 t0.num) ∧ w'.cell? ⟨b, o + 2, none⟩ = some (.slice at0 t0.kids.length ct0) ∧ w'.cell? ⟨b, o + 3, none⟩ = some (.int .i64 t1.kind) ∧ w'.cell? ⟨b, o + 4, none⟩ = some (.int .i64 t1.num) ∧ w'.cell? ⟨b, o + 5, none⟩ = some (.slice at1 t1.kids.length ct1)) (first | exact HS0.out | exact HSK.out _ HP2.out) (((with_reducible refine HC.out.mono ?_); rintro e w' ⟨rfl, hp⟩; have HP2 := tuck hp; clear hp))
  go_wp2_with fail
  go_end0
  exact HP.out _ HP2.out

set_option maxRecDepth 100000 in
set_option maxHeartbeats 4000000 in
theorem acc_pair (w0 : World) (g : Nat) (tn : Int) (t0 : Tm) (hft0 : FmtOk w0 g t0) (t1 : Tm) (hft1 : FmtOk w0 g t1) (t2 : Tm) (hft2 : FmtOk w0 g t2) (a : Option Addr) (c : Nat) (hs : SlIn w0 0 [t0, t1, t2] (.slice a 3 c)) (W : World) (X : ByteArray) (hW : Below w0.heap.size w0 W) (hF : Fm w0.heap.size g X W) (hsz : X.size + (ByteArray.mk #[124] ++ joinB (ByteArray.mk #[44]) (txtL [t0, t1, t2]) 3 ++ ByteArray.mk #[124]).size ≤ 1099511627776) :
    Calls Tryz.prog 225 #[.agg #[], .iface 53 (.pointer (some ⟨g, 0, none⟩)), .agg #[.int .i64 14, .int .i64 tn, .slice a 3 c]] W (FmPost w0.heap.size g (X ++ (ByteArray.mk #[124] ++ joinB (ByteArray.mk #[44]) (txtL [t0, t1, t2]) 3 ++ ByteArray.mk #[124])) W) := by
  have hB : w0.heap.size ≤ W.heap.size := hW.size
  have hgW : g < W.heap.size := FIs.lt hF
  obtain ⟨a', cap, b, o, he, h1, h2, hrow⟩ := hs
  simp only [List.length_cons, List.length_nil, Nat.reduceAdd, Value.slice.injEq, true_and] at he
  obtain ⟨rfl, rfl⟩ := he
  obtain ⟨rfl, -⟩ := h2 (by simp)
  simp only [RowAt] at hrow
  obtain ⟨st0, xt00, xt01, xt02, ht0⟩ := TmAt_iff.1 (show TmAt w0 0 t0 b o from hrow.1)
  obtain ⟨at0, ct0, rfl⟩ := ht0.form
  obtain ⟨st1, xt10, xt11, xt12, ht1⟩ := TmAt_iff.1 (show TmAt w0 0 t1 b (o + 3) from hrow.2.1)
  obtain ⟨at1, ct1, rfl⟩ := ht1.form
  obtain ⟨st2, xt20, xt21, xt22, ht2⟩ := TmAt_iff.1 (show TmAt w0 0 t2 b (o + 6) from hrow.2.2.1)
  obtain ⟨at2, ct2, rfl⟩ := ht2.form
  have hm : ∀ n w, (method (n + 1) 53 (.pointer (some ⟨g, 0, none⟩)) "loop.example/depkernel/impl.visitPair").run Tryz.prog w = .ok (162, .pointer (some ⟨g, 0, none⟩)) w := fun _ _ => by kernel_rfl
  have hna : ∀ n w, (nilAhead (n + 1) 53 (.pointer (some ⟨g, 0, none⟩)) "loop.example/depkernel/impl.visitPair").run Tryz.prog w = .ok (some false) w := fun _ _ => by kernel_rfl
  have hmf : ∀ (fn : Fn) (first cap : Array Value) (w : World), (Instr.makeFunc fn first cap).run Tryz.prog w = .ok (.func fn first cap) w := fun _ _ _ _ => rfl
  go_enter Tryz.func225, Tryz.ntmps225
  go_wp2_with fail
  have HVB : Hid (VarAt (W.heap.size + 1) 14 tn (.slice (some ⟨b, o, none⟩) 3 c) ((W.alloc (.cells #[] 167)).alloc (.cells #[.int .i64 14, .int .i64 tn, .slice (some ⟨b, o, none⟩) 3 c] 29))) := tuck (by
    have h := VarAt.new (W.alloc (.cells #[] 167)) 14 tn (.slice (some ⟨b, o, none⟩) 3 c)
    simpa using h)
  have HPB : Hid (FmP w0.heap.size g X W ((W.alloc (.cells #[] 167)).alloc (.cells #[.int .i64 14, .int .i64 tn, .slice (some ⟨b, o, none⟩) 3 c] 29))) := tuck (((FmP.refl hF).alloc hB _).alloc (by simp; omega) _)
  have HBB : Hid (Below w0.heap.size w0 ((W.alloc (.cells #[] 167)).alloc (.cells #[.int .i64 14, .int .i64 tn, .slice (some ⟨b, o, none⟩) 3 c] 29))) := tuck ((hW.alloc hB _).alloc (by simp; omega) _)
  generalize ((W.alloc (.cells #[] 167)).alloc (.cells #[.int .i64 14, .int .i64 tn, .slice (some ⟨b, o, none⟩) 3 c] 29)) = WB at *
  have hbg : W.heap.size + 1 ≠ g := by omega
  generalize W.heap.size + 1 = bb at *
  obtain ⟨zb, v0, v1, v2, vf⟩ := HVB.out.facts
  have y0 : WB.drew.cell? ⟨b, o, none⟩ = some (.int .i64 t0.kind) := (HBB.out.cell (p := ⟨b, o, none⟩) (World.block_lt_of_cell? w0 _ xt00)).trans xt00
  have y1 : WB.drew.cell? ⟨b, o + 1, none⟩ = some (.int .i64 t0.num) := (HBB.out.cell (p := ⟨b, o + 1, none⟩) (World.block_lt_of_cell? w0 _ xt01)).trans xt01
  have y2 : WB.drew.cell? ⟨b, o + 2, none⟩ = some (.slice at0 t0.kids.length ct0) := (HBB.out.cell (p := ⟨b, o + 2, none⟩) (World.block_lt_of_cell? w0 _ xt02)).trans xt02
  have y3 : WB.drew.cell? ⟨b, o + 3, none⟩ = some (.int .i64 t1.kind) := (HBB.out.cell (p := ⟨b, o + 3, none⟩) (World.block_lt_of_cell? w0 _ xt10)).trans xt10
  have y4 : WB.drew.cell? ⟨b, o + 4, none⟩ = some (.int .i64 t1.num) := (HBB.out.cell (p := ⟨b, o + 4, none⟩) (World.block_lt_of_cell? w0 _ xt11)).trans xt11
  have y5 : WB.drew.cell? ⟨b, o + 5, none⟩ = some (.slice at1 t1.kids.length ct1) := (HBB.out.cell (p := ⟨b, o + 5, none⟩) (World.block_lt_of_cell? w0 _ xt12)).trans xt12
  have y6 : WB.drew.cell? ⟨b, o + 6, none⟩ = some (.int .i64 t2.kind) := (HBB.out.cell (p := ⟨b, o + 6, none⟩) (World.block_lt_of_cell? w0 _ xt20)).trans xt20
  have y7 : WB.drew.cell? ⟨b, o + 7, none⟩ = some (.int .i64 t2.num) := (HBB.out.cell (p := ⟨b, o + 7, none⟩) (World.block_lt_of_cell? w0 _ xt21)).trans xt21
  have y8 : WB.drew.cell? ⟨b, o + 8, none⟩ = some (.slice at2 t2.kids.length ct2) := (HBB.out.cell (p := ⟨b, o + 8, none⟩) (World.block_lt_of_cell? w0 _ xt22)).trans xt22
  have HS0 : Hid ((fun w' : World => bb < w'.heap.size ∧ w'.cell? ⟨bb, 2, none⟩ = some (.slice (some ⟨b, o, none⟩) 3 c) ∧ w'.cell? ⟨b, o, none⟩ = some (.int .i64 t0.kind) ∧ w'.cell? ⟨b, o + 1, none⟩ = some (.int .i64 t0.num) ∧ w'.cell? ⟨b, o + 2, none⟩ = some (.slice at0 t0.kids.length ct0) ∧ w'.cell? ⟨b, o + 3, none⟩ = some (.int .i64 t1.kind) ∧ w'.cell? ⟨b, o + 4, none⟩ = some (.int .i64 t1.num) ∧ w'.cell? ⟨b, o + 5, none⟩ = some (.slice at1 t1.kids.length ct1) ∧ w'.cell? ⟨b, o + 6, none⟩ = some (.int .i64 t2.kind) ∧ w'.cell? ⟨b, o + 7, none⟩ = some (.int .i64 t2.num) ∧ w'.cell? ⟨b, o + 8, none⟩ = some (.slice at2 t2.kids.length ct2)) WB.drew) := tuck ⟨zb, v2, y0, y1, y2, y3, y4, y5, y6, y7, y8⟩
  have HSK : Hid (∀ w', FmP w0.heap.size g (X ++ (ByteArray.mk #[124] ++ joinB (ByteArray.mk #[44]) (txtL [t0, t1, t2]) 3 ++ ByteArray.mk #[124])) WB.drew w' → (fun w' : World => bb < w'.heap.size ∧ w'.cell? ⟨bb, 2, none⟩ = some (.slice (some ⟨b, o, none⟩) 3 c) ∧ w'.cell? ⟨b, o, none⟩ = some (.int .i64 t0.kind) ∧ w'.cell? ⟨b, o + 1, none⟩ = some (.int .i64 t0.num) ∧ w'.cell? ⟨b, o + 2, none⟩ = some (.slice at0 t0.kids.length ct0) ∧ w'.cell? ⟨b, o + 3, none⟩ = some (.int .i64 t1.kind) ∧ w'.cell? ⟨b, o + 4, none⟩ = some (.int .i64 t1.num) ∧ w'.cell? ⟨b, o + 5, none⟩ = some (.slice at1 t1.kids.length ct1) ∧ w'.cell? ⟨b, o + 6, none⟩ = some (.int .i64 t2.kind) ∧ w'.cell? ⟨b, o + 7, none⟩ = some (.int .i64 t2.num) ∧ w'.cell? ⟨b, o + 8, none⟩ = some (.slice at2 t2.kids.length ct2)) w') := tuck fun w' h => by
    have hb := HBB.out.drew.trans h.be
    obtain ⟨zb', -, -, v2', -⟩ := ((show VarAt bb _ _ _ WB.drew from HVB.out).others h.ok hbg).facts
    exact ⟨zb', v2', (hb.cell (p := ⟨b, o, none⟩) (World.block_lt_of_cell? w0 _ xt00)).trans xt00, (hb.cell (p := ⟨b, o + 1, none⟩) (World.block_lt_of_cell? w0 _ xt01)).trans xt01, (hb.cell (p := ⟨b, o + 2, none⟩) (World.block_lt_of_cell? w0 _ xt02)).trans xt02, (hb.cell (p := ⟨b, o + 3, none⟩) (World.block_lt_of_cell? w0 _ xt10)).trans xt10, (hb.cell (p := ⟨b, o + 4, none⟩) (World.block_lt_of_cell? w0 _ xt11)).trans xt11, (hb.cell (p := ⟨b, o + 5, none⟩) (World.block_lt_of_cell? w0 _ xt12)).trans xt12, (hb.cell (p := ⟨b, o + 6, none⟩) (World.block_lt_of_cell? w0 _ xt20)).trans xt20, (hb.cell (p := ⟨b, o + 7, none⟩) (World.block_lt_of_cell? w0 _ xt21)).trans xt21, (hb.cell (p := ⟨b, o + 8, none⟩) (World.block_lt_of_cell? w0 _ xt22)).trans xt22⟩
  have HC := tuck (vis_pair w0 g t0 at0 ct0 ht0 hft0 t1 at1 ct1 ht1 hft1 t2 at2 ct2 ht2 hft2 WB.drew X HBB.out.drew HPB.out.fm.drew hsz)
  have HP : Hid (∀ W', FmP w0.heap.size g (X ++ (ByteArray.mk #[124] ++ joinB (ByteArray.mk #[44]) (txtL [t0, t1, t2]) 3 ++ ByteArray.mk #[124])) WB.drew W' → FmPost w0.heap.size g (X ++ (ByteArray.mk #[124] ++ joinB (ByteArray.mk #[44]) (txtL [t0, t1, t2]) 3 ++ ByteArray.mk #[124])) W (.returned (.tuple #[])) W') := tuck fun W' h => ⟨rfl, HPB.out.drew.trans h⟩
  generalize FmPost w0.heap.size g (X ++ (ByteArray.mk #[124] ++ joinB (ByteArray.mk #[44]) (txtL [t0, t1, t2]) 3 ++ ByteArray.mk #[124])) W = post at *
  clear ht0 hft0 xt00 xt01 xt02 ht1 hft1 xt10 xt11 xt12 ht2 hft2 xt20 xt21 xt22 hW hF hsz hrow h1 h2 hB hgW zb v0 v1 v2 vf y0 y1 y2 y3 y4 y5 y6 y7 y8 HVB HBB HPB hbg
  go_region_held3 (fun w' : World => bb < w'.heap.size ∧ w'.cell? ⟨bb, 2, none⟩ = some (.slice (some ⟨b, o, none⟩) 3 c) ∧ w'.cell? ⟨b, o, none⟩ = some (.int .i64 t0.kind) ∧ w'.cell? ⟨b, o + 1, none⟩ = some (.int .i64 t0.num) ∧ w'.cell? ⟨b, o + 2, none⟩ = some (.slice at0 t0.kids.length ct0) ∧ w'.cell? ⟨b, o + 3, none⟩ = some (.int .i64 t1.kind) ∧ w'.cell? ⟨b, o + 4, none⟩ = some (.int .i64 t1.num) ∧ w'.cell? ⟨b, o + 5, none⟩ = some (.slice at1 t1.kids.length ct1) ∧ w'.cell? ⟨b, o + 6, none⟩ = some (.int .i64 t2.kind) ∧ w'.cell? ⟨b, o + 7, none⟩ = some (.int .i64 t2.num) ∧ w'.cell? ⟨b, o + 8, none⟩ = some (.slice at2 t2.kids.length ct2)) (first | exact HS0.out | exact HSK.out _ HP2.out) (((with_reducible refine HC.out.mono ?_); rintro e w' ⟨rfl, hp⟩; have HP2 := tuck hp; clear hp))
  go_wp2_with fail
  go_end0
  exact HP.out _ HP2.out

set_option maxRecDepth 100000 in
set_option maxHeartbeats 4000000 in
theorem acc_fst (w0 : World) (g : Nat) (tn : Int) (t0 : Tm) (hft0 : FmtOk w0 g t0) (a : Option Addr) (c : Nat) (hs : SlIn w0 0 [t0] (.slice a 1 c)) (W : World) (X : ByteArray) (hW : Below w0.heap.size w0 W) (hF : Fm w0.heap.size g X W) (hsz : X.size + (ByteArray.mk #[94] ++ joinB (ByteArray.mk #[]) (txtL [t0]) 1 ++ ByteArray.mk #[]).size ≤ 1099511627776) :
    Calls Tryz.prog 227 #[.agg #[], .iface 53 (.pointer (some ⟨g, 0, none⟩)), .agg #[.int .i64 15, .int .i64 tn, .slice a 1 c]] W (FmPost w0.heap.size g (X ++ (ByteArray.mk #[94] ++ joinB (ByteArray.mk #[]) (txtL [t0]) 1 ++ ByteArray.mk #[])) W) := by
  have hB : w0.heap.size ≤ W.heap.size := hW.size
  have hgW : g < W.heap.size := FIs.lt hF
  obtain ⟨a', cap, b, o, he, h1, h2, hrow⟩ := hs
  simp only [List.length_cons, List.length_nil, Nat.reduceAdd, Value.slice.injEq, true_and] at he
  obtain ⟨rfl, rfl⟩ := he
  obtain ⟨rfl, -⟩ := h2 (by simp)
  simp only [RowAt] at hrow
  obtain ⟨st0, xt00, xt01, xt02, ht0⟩ := TmAt_iff.1 (show TmAt w0 0 t0 b o from hrow.1)
  obtain ⟨at0, ct0, rfl⟩ := ht0.form
  have hm : ∀ n w, (method (n + 1) 53 (.pointer (some ⟨g, 0, none⟩)) "loop.example/depkernel/impl.visitFst").run Tryz.prog w = .ok (158, .pointer (some ⟨g, 0, none⟩)) w := fun _ _ => by kernel_rfl
  have hna : ∀ n w, (nilAhead (n + 1) 53 (.pointer (some ⟨g, 0, none⟩)) "loop.example/depkernel/impl.visitFst").run Tryz.prog w = .ok (some false) w := fun _ _ => by kernel_rfl
  have hmf : ∀ (fn : Fn) (first cap : Array Value) (w : World), (Instr.makeFunc fn first cap).run Tryz.prog w = .ok (.func fn first cap) w := fun _ _ _ _ => rfl
  go_enter Tryz.func227, Tryz.ntmps227
  go_wp2_with fail
  have HVB : Hid (VarAt (W.heap.size + 1) 15 tn (.slice (some ⟨b, o, none⟩) 1 c) ((W.alloc (.cells #[] 168)).alloc (.cells #[.int .i64 15, .int .i64 tn, .slice (some ⟨b, o, none⟩) 1 c] 29))) := tuck (by
    have h := VarAt.new (W.alloc (.cells #[] 168)) 15 tn (.slice (some ⟨b, o, none⟩) 1 c)
    simpa using h)
  have HPB : Hid (FmP w0.heap.size g X W ((W.alloc (.cells #[] 168)).alloc (.cells #[.int .i64 15, .int .i64 tn, .slice (some ⟨b, o, none⟩) 1 c] 29))) := tuck (((FmP.refl hF).alloc hB _).alloc (by simp; omega) _)
  have HBB : Hid (Below w0.heap.size w0 ((W.alloc (.cells #[] 168)).alloc (.cells #[.int .i64 15, .int .i64 tn, .slice (some ⟨b, o, none⟩) 1 c] 29))) := tuck ((hW.alloc hB _).alloc (by simp; omega) _)
  generalize ((W.alloc (.cells #[] 168)).alloc (.cells #[.int .i64 15, .int .i64 tn, .slice (some ⟨b, o, none⟩) 1 c] 29)) = WB at *
  have hbg : W.heap.size + 1 ≠ g := by omega
  generalize W.heap.size + 1 = bb at *
  obtain ⟨zb, v0, v1, v2, vf⟩ := HVB.out.facts
  have y0 : WB.drew.cell? ⟨b, o, none⟩ = some (.int .i64 t0.kind) := (HBB.out.cell (p := ⟨b, o, none⟩) (World.block_lt_of_cell? w0 _ xt00)).trans xt00
  have y1 : WB.drew.cell? ⟨b, o + 1, none⟩ = some (.int .i64 t0.num) := (HBB.out.cell (p := ⟨b, o + 1, none⟩) (World.block_lt_of_cell? w0 _ xt01)).trans xt01
  have y2 : WB.drew.cell? ⟨b, o + 2, none⟩ = some (.slice at0 t0.kids.length ct0) := (HBB.out.cell (p := ⟨b, o + 2, none⟩) (World.block_lt_of_cell? w0 _ xt02)).trans xt02
  have HS0 : Hid ((fun w' : World => bb < w'.heap.size ∧ w'.cell? ⟨bb, 2, none⟩ = some (.slice (some ⟨b, o, none⟩) 1 c) ∧ w'.cell? ⟨b, o, none⟩ = some (.int .i64 t0.kind) ∧ w'.cell? ⟨b, o + 1, none⟩ = some (.int .i64 t0.num) ∧ w'.cell? ⟨b, o + 2, none⟩ = some (.slice at0 t0.kids.length ct0)) WB.drew) := tuck ⟨zb, v2, y0, y1, y2⟩
  have HSK : Hid (∀ w', FmP w0.heap.size g (X ++ (ByteArray.mk #[94] ++ joinB (ByteArray.mk #[]) (txtL [t0]) 1 ++ ByteArray.mk #[])) WB.drew w' → (fun w' : World => bb < w'.heap.size ∧ w'.cell? ⟨bb, 2, none⟩ = some (.slice (some ⟨b, o, none⟩) 1 c) ∧ w'.cell? ⟨b, o, none⟩ = some (.int .i64 t0.kind) ∧ w'.cell? ⟨b, o + 1, none⟩ = some (.int .i64 t0.num) ∧ w'.cell? ⟨b, o + 2, none⟩ = some (.slice at0 t0.kids.length ct0)) w') := tuck fun w' h => by
    have hb := HBB.out.drew.trans h.be
    obtain ⟨zb', -, -, v2', -⟩ := ((show VarAt bb _ _ _ WB.drew from HVB.out).others h.ok hbg).facts
    exact ⟨zb', v2', (hb.cell (p := ⟨b, o, none⟩) (World.block_lt_of_cell? w0 _ xt00)).trans xt00, (hb.cell (p := ⟨b, o + 1, none⟩) (World.block_lt_of_cell? w0 _ xt01)).trans xt01, (hb.cell (p := ⟨b, o + 2, none⟩) (World.block_lt_of_cell? w0 _ xt02)).trans xt02⟩
  have HC := tuck (vis_fst w0 g t0 at0 ct0 ht0 hft0 WB.drew X HBB.out.drew HPB.out.fm.drew hsz)
  have HP : Hid (∀ W', FmP w0.heap.size g (X ++ (ByteArray.mk #[94] ++ joinB (ByteArray.mk #[]) (txtL [t0]) 1 ++ ByteArray.mk #[])) WB.drew W' → FmPost w0.heap.size g (X ++ (ByteArray.mk #[94] ++ joinB (ByteArray.mk #[]) (txtL [t0]) 1 ++ ByteArray.mk #[])) W (.returned (.tuple #[])) W') := tuck fun W' h => ⟨rfl, HPB.out.drew.trans h⟩
  generalize FmPost w0.heap.size g (X ++ (ByteArray.mk #[94] ++ joinB (ByteArray.mk #[]) (txtL [t0]) 1 ++ ByteArray.mk #[])) W = post at *
  clear ht0 hft0 xt00 xt01 xt02 hW hF hsz hrow h1 h2 hB hgW zb v0 v1 v2 vf y0 y1 y2 HVB HBB HPB hbg
  go_region_held3 (fun w' : World => bb < w'.heap.size ∧ w'.cell? ⟨bb, 2, none⟩ = some (.slice (some ⟨b, o, none⟩) 1 c) ∧ w'.cell? ⟨b, o, none⟩ = some (.int .i64 t0.kind) ∧ w'.cell? ⟨b, o + 1, none⟩ = some (.int .i64 t0.num) ∧ w'.cell? ⟨b, o + 2, none⟩ = some (.slice at0 t0.kids.length ct0)) (first | exact HS0.out | exact HSK.out _ HP2.out) (((with_reducible refine HC.out.mono ?_); rintro e w' ⟨rfl, hp⟩; have HP2 := tuck hp; clear hp))
  go_wp2_with fail
  go_end0
  exact HP.out _ HP2.out

set_option maxRecDepth 100000 in
set_option maxHeartbeats 4000000 in
theorem acc_snd (w0 : World) (g : Nat) (tn : Int) (t0 : Tm) (hft0 : FmtOk w0 g t0) (a : Option Addr) (c : Nat) (hs : SlIn w0 0 [t0] (.slice a 1 c)) (W : World) (X : ByteArray) (hW : Below w0.heap.size w0 W) (hF : Fm w0.heap.size g X W) (hsz : X.size + (ByteArray.mk #[95] ++ joinB (ByteArray.mk #[]) (txtL [t0]) 1 ++ ByteArray.mk #[]).size ≤ 1099511627776) :
    Calls Tryz.prog 229 #[.agg #[], .iface 53 (.pointer (some ⟨g, 0, none⟩)), .agg #[.int .i64 16, .int .i64 tn, .slice a 1 c]] W (FmPost w0.heap.size g (X ++ (ByteArray.mk #[95] ++ joinB (ByteArray.mk #[]) (txtL [t0]) 1 ++ ByteArray.mk #[])) W) := by
  have hB : w0.heap.size ≤ W.heap.size := hW.size
  have hgW : g < W.heap.size := FIs.lt hF
  obtain ⟨a', cap, b, o, he, h1, h2, hrow⟩ := hs
  simp only [List.length_cons, List.length_nil, Nat.reduceAdd, Value.slice.injEq, true_and] at he
  obtain ⟨rfl, rfl⟩ := he
  obtain ⟨rfl, -⟩ := h2 (by simp)
  simp only [RowAt] at hrow
  obtain ⟨st0, xt00, xt01, xt02, ht0⟩ := TmAt_iff.1 (show TmAt w0 0 t0 b o from hrow.1)
  obtain ⟨at0, ct0, rfl⟩ := ht0.form
  have hm : ∀ n w, (method (n + 1) 53 (.pointer (some ⟨g, 0, none⟩)) "loop.example/depkernel/impl.visitSnd").run Tryz.prog w = .ok (166, .pointer (some ⟨g, 0, none⟩)) w := fun _ _ => by kernel_rfl
  have hna : ∀ n w, (nilAhead (n + 1) 53 (.pointer (some ⟨g, 0, none⟩)) "loop.example/depkernel/impl.visitSnd").run Tryz.prog w = .ok (some false) w := fun _ _ => by kernel_rfl
  have hmf : ∀ (fn : Fn) (first cap : Array Value) (w : World), (Instr.makeFunc fn first cap).run Tryz.prog w = .ok (.func fn first cap) w := fun _ _ _ _ => rfl
  go_enter Tryz.func229, Tryz.ntmps229
  go_wp2_with fail
  have HVB : Hid (VarAt (W.heap.size + 1) 16 tn (.slice (some ⟨b, o, none⟩) 1 c) ((W.alloc (.cells #[] 169)).alloc (.cells #[.int .i64 16, .int .i64 tn, .slice (some ⟨b, o, none⟩) 1 c] 29))) := tuck (by
    have h := VarAt.new (W.alloc (.cells #[] 169)) 16 tn (.slice (some ⟨b, o, none⟩) 1 c)
    simpa using h)
  have HPB : Hid (FmP w0.heap.size g X W ((W.alloc (.cells #[] 169)).alloc (.cells #[.int .i64 16, .int .i64 tn, .slice (some ⟨b, o, none⟩) 1 c] 29))) := tuck (((FmP.refl hF).alloc hB _).alloc (by simp; omega) _)
  have HBB : Hid (Below w0.heap.size w0 ((W.alloc (.cells #[] 169)).alloc (.cells #[.int .i64 16, .int .i64 tn, .slice (some ⟨b, o, none⟩) 1 c] 29))) := tuck ((hW.alloc hB _).alloc (by simp; omega) _)
  generalize ((W.alloc (.cells #[] 169)).alloc (.cells #[.int .i64 16, .int .i64 tn, .slice (some ⟨b, o, none⟩) 1 c] 29)) = WB at *
  have hbg : W.heap.size + 1 ≠ g := by omega
  generalize W.heap.size + 1 = bb at *
  obtain ⟨zb, v0, v1, v2, vf⟩ := HVB.out.facts
  have y0 : WB.drew.cell? ⟨b, o, none⟩ = some (.int .i64 t0.kind) := (HBB.out.cell (p := ⟨b, o, none⟩) (World.block_lt_of_cell? w0 _ xt00)).trans xt00
  have y1 : WB.drew.cell? ⟨b, o + 1, none⟩ = some (.int .i64 t0.num) := (HBB.out.cell (p := ⟨b, o + 1, none⟩) (World.block_lt_of_cell? w0 _ xt01)).trans xt01
  have y2 : WB.drew.cell? ⟨b, o + 2, none⟩ = some (.slice at0 t0.kids.length ct0) := (HBB.out.cell (p := ⟨b, o + 2, none⟩) (World.block_lt_of_cell? w0 _ xt02)).trans xt02
  have HS0 : Hid ((fun w' : World => bb < w'.heap.size ∧ w'.cell? ⟨bb, 2, none⟩ = some (.slice (some ⟨b, o, none⟩) 1 c) ∧ w'.cell? ⟨b, o, none⟩ = some (.int .i64 t0.kind) ∧ w'.cell? ⟨b, o + 1, none⟩ = some (.int .i64 t0.num) ∧ w'.cell? ⟨b, o + 2, none⟩ = some (.slice at0 t0.kids.length ct0)) WB.drew) := tuck ⟨zb, v2, y0, y1, y2⟩
  have HSK : Hid (∀ w', FmP w0.heap.size g (X ++ (ByteArray.mk #[95] ++ joinB (ByteArray.mk #[]) (txtL [t0]) 1 ++ ByteArray.mk #[])) WB.drew w' → (fun w' : World => bb < w'.heap.size ∧ w'.cell? ⟨bb, 2, none⟩ = some (.slice (some ⟨b, o, none⟩) 1 c) ∧ w'.cell? ⟨b, o, none⟩ = some (.int .i64 t0.kind) ∧ w'.cell? ⟨b, o + 1, none⟩ = some (.int .i64 t0.num) ∧ w'.cell? ⟨b, o + 2, none⟩ = some (.slice at0 t0.kids.length ct0)) w') := tuck fun w' h => by
    have hb := HBB.out.drew.trans h.be
    obtain ⟨zb', -, -, v2', -⟩ := ((show VarAt bb _ _ _ WB.drew from HVB.out).others h.ok hbg).facts
    exact ⟨zb', v2', (hb.cell (p := ⟨b, o, none⟩) (World.block_lt_of_cell? w0 _ xt00)).trans xt00, (hb.cell (p := ⟨b, o + 1, none⟩) (World.block_lt_of_cell? w0 _ xt01)).trans xt01, (hb.cell (p := ⟨b, o + 2, none⟩) (World.block_lt_of_cell? w0 _ xt02)).trans xt02⟩
  have HC := tuck (vis_snd w0 g t0 at0 ct0 ht0 hft0 WB.drew X HBB.out.drew HPB.out.fm.drew hsz)
  have HP : Hid (∀ W', FmP w0.heap.size g (X ++ (ByteArray.mk #[95] ++ joinB (ByteArray.mk #[]) (txtL [t0]) 1 ++ ByteArray.mk #[])) WB.drew W' → FmPost w0.heap.size g (X ++ (ByteArray.mk #[95] ++ joinB (ByteArray.mk #[]) (txtL [t0]) 1 ++ ByteArray.mk #[])) W (.returned (.tuple #[])) W') := tuck fun W' h => ⟨rfl, HPB.out.drew.trans h⟩
  generalize FmPost w0.heap.size g (X ++ (ByteArray.mk #[95] ++ joinB (ByteArray.mk #[]) (txtL [t0]) 1 ++ ByteArray.mk #[])) W = post at *
  clear ht0 hft0 xt00 xt01 xt02 hW hF hsz hrow h1 h2 hB hgW zb v0 v1 v2 vf y0 y1 y2 HVB HBB HPB hbg
  go_region_held3 (fun w' : World => bb < w'.heap.size ∧ w'.cell? ⟨bb, 2, none⟩ = some (.slice (some ⟨b, o, none⟩) 1 c) ∧ w'.cell? ⟨b, o, none⟩ = some (.int .i64 t0.kind) ∧ w'.cell? ⟨b, o + 1, none⟩ = some (.int .i64 t0.num) ∧ w'.cell? ⟨b, o + 2, none⟩ = some (.slice at0 t0.kids.length ct0)) (first | exact HS0.out | exact HSK.out _ HP2.out) (((with_reducible refine HC.out.mono ?_); rintro e w' ⟨rfl, hp⟩; have HP2 := tuck hp; clear hp))
  go_wp2_with fail
  go_end0
  exact HP.out _ HP2.out

set_option maxRecDepth 100000 in
set_option maxHeartbeats 4000000 in
theorem acc_nat (w0 : World) (g : Nat) (tn : Int) (s : Value) (W : World) (X : ByteArray) (hW : Below w0.heap.size w0 W) (hF : Fm w0.heap.size g X W) (hsz : X.size + (ByteArray.mk #[78]).size ≤ 1099511627776) :
    Calls Tryz.prog 206 #[.agg #[], .iface 53 (.pointer (some ⟨g, 0, none⟩)), .agg #[.int .i64 6, .int .i64 tn, s]] W (FmPost w0.heap.size g (X ++ ByteArray.mk #[78]) W) := by
  have hB : w0.heap.size ≤ W.heap.size := hW.size
  have HV : Hid (∀ W', FmP w0.heap.size g X W W' → w0.heap.size ≤ W'.heap.size → Calls Tryz.prog 153 #[.pointer (some ⟨g, 0, none⟩)] W' (FmPost w0.heap.size g (X ++ ByteArray.mk #[78]) W)) := tuck fun W' hp hb => by
    have HC := tuck (wr_any w0.heap.size g X (ByteArray.mk #[78]) W' hp.fm hsz hb)
    have HP : Hid (∀ W2, FmP w0.heap.size g (X ++ ByteArray.mk #[78]) W' W2 → FmPost w0.heap.size g (X ++ ByteArray.mk #[78]) W (.returned (.tuple #[])) W2) := tuck fun W2 h => ⟨rfl, hp.trans h⟩
    generalize FmPost w0.heap.size g (X ++ ByteArray.mk #[78]) W = post at *
    clear hF hsz hp
    go_enter Tryz.func153, Tryz.ntmps153
    go_wp2_with fail
    refine HC.out.mono ?_
    rintro e w2 ⟨rfl, hp2⟩
    have HP2 := tuck hp2
    clear hp2 HC
    go_wp2_with fail
    go_end0
    exact HP.out _ HP2.out
  have hna : ∀ n w, (nilAhead (n + 1) 53 (.pointer (some ⟨g, 0, none⟩)) "loop.example/depkernel/impl.visitNat").run Tryz.prog w = .ok (some false) w := fun _ _ => by kernel_rfl
  have hm : ∀ n w, (method (n + 1) 53 (.pointer (some ⟨g, 0, none⟩)) "loop.example/depkernel/impl.visitNat").run Tryz.prog w = .ok (153, .pointer (some ⟨g, 0, none⟩)) w := fun _ _ => by kernel_rfl
  have HP : Hid (∀ e W2, FmPost w0.heap.size g (X ++ ByteArray.mk #[78]) W e W2 → e = .returned (.tuple #[]) ∧ FmPost w0.heap.size g (X ++ ByteArray.mk #[78]) W (.returned (.tuple #[])) W2) := tuck fun e W2 h => ⟨h.1, rfl, h.2⟩
  have HPB := tuck (((FmP.refl hF).alloc hB (.cells #[] 153)).alloc (by simp; omega) (.cells #[.int .i64 6, .int .i64 tn, s] 29))
  have HC := tuck (HV.out _ HPB.out (by simp; omega))
  generalize FmPost w0.heap.size g (X ++ ByteArray.mk #[78]) W = post at *
  clear hW hF hsz hB HV HPB
  go_enter Tryz.func206, Tryz.ntmps206
  go_wp2_with fail
  refine HC.out.mono ?_
  rintro e w2 hp2
  obtain ⟨rfl, hp3⟩ := HP.out _ _ hp2
  have HP3 := tuck hp3
  clear hp2 hp3 HP HC
  go_wp2_with fail
  go_end0
  exact HP3.out

set_option maxRecDepth 100000 in
set_option maxHeartbeats 4000000 in
theorem acc_zero (w0 : World) (g : Nat) (tn : Int) (s : Value) (W : World) (X : ByteArray) (hW : Below w0.heap.size w0 W) (hF : Fm w0.heap.size g X W) (hsz : X.size + (ByteArray.mk #[48]).size ≤ 1099511627776) :
    Calls Tryz.prog 208 #[.agg #[], .iface 53 (.pointer (some ⟨g, 0, none⟩)), .agg #[.int .i64 7, .int .i64 tn, s]] W (FmPost w0.heap.size g (X ++ ByteArray.mk #[48]) W) := by
  have hB : w0.heap.size ≤ W.heap.size := hW.size
  have HV : Hid (∀ W', FmP w0.heap.size g X W W' → w0.heap.size ≤ W'.heap.size → Calls Tryz.prog 170 #[.pointer (some ⟨g, 0, none⟩)] W' (FmPost w0.heap.size g (X ++ ByteArray.mk #[48]) W)) := tuck fun W' hp hb => by
    have HC := tuck (wr_any w0.heap.size g X (ByteArray.mk #[48]) W' hp.fm hsz hb)
    have HP : Hid (∀ W2, FmP w0.heap.size g (X ++ ByteArray.mk #[48]) W' W2 → FmPost w0.heap.size g (X ++ ByteArray.mk #[48]) W (.returned (.tuple #[])) W2) := tuck fun W2 h => ⟨rfl, hp.trans h⟩
    generalize FmPost w0.heap.size g (X ++ ByteArray.mk #[48]) W = post at *
    clear hF hsz hp
    go_enter Tryz.func170, Tryz.ntmps170
    go_wp2_with fail
    refine HC.out.mono ?_
    rintro e w2 ⟨rfl, hp2⟩
    have HP2 := tuck hp2
    clear hp2 HC
    go_wp2_with fail
    go_end0
    exact HP.out _ HP2.out
  have hna : ∀ n w, (nilAhead (n + 1) 53 (.pointer (some ⟨g, 0, none⟩)) "loop.example/depkernel/impl.visitZero").run Tryz.prog w = .ok (some false) w := fun _ _ => by kernel_rfl
  have hm : ∀ n w, (method (n + 1) 53 (.pointer (some ⟨g, 0, none⟩)) "loop.example/depkernel/impl.visitZero").run Tryz.prog w = .ok (170, .pointer (some ⟨g, 0, none⟩)) w := fun _ _ => by kernel_rfl
  have HP : Hid (∀ e W2, FmPost w0.heap.size g (X ++ ByteArray.mk #[48]) W e W2 → e = .returned (.tuple #[]) ∧ FmPost w0.heap.size g (X ++ ByteArray.mk #[48]) W (.returned (.tuple #[])) W2) := tuck fun e W2 h => ⟨h.1, rfl, h.2⟩
  have HPB := tuck (((FmP.refl hF).alloc hB (.cells #[] 154)).alloc (by simp; omega) (.cells #[.int .i64 7, .int .i64 tn, s] 29))
  have HC := tuck (HV.out _ HPB.out (by simp; omega))
  generalize FmPost w0.heap.size g (X ++ ByteArray.mk #[48]) W = post at *
  clear hW hF hsz hB HV HPB
  go_enter Tryz.func208, Tryz.ntmps208
  go_wp2_with fail
  refine HC.out.mono ?_
  rintro e w2 hp2
  obtain ⟨rfl, hp3⟩ := HP.out _ _ hp2
  have HP3 := tuck hp3
  clear hp2 hp3 HP HC
  go_wp2_with fail
  go_end0
  exact HP3.out

set_option maxRecDepth 100000 in
set_option maxHeartbeats 4000000 in
theorem acc_var (w0 : World) (g : Nat) (tn : Nat) (htn : tn ≤ 20) (s : Value) (W : World) (X : ByteArray) (hW : Below w0.heap.size w0 W) (hF : Fm w0.heap.size g X W) (hsz : X.size + (ByteArray.mk #[35] ++ decS tn).size ≤ 1099511627776) :
    Calls Tryz.prog 175 #[.agg #[], .iface 53 (.pointer (some ⟨g, 0, none⟩)), .agg #[.int .i64 1, .int .i64 tn, s]] W (FmPost w0.heap.size g (X ++ (ByteArray.mk #[35] ++ decS tn)) W) := by
  have hB : w0.heap.size ≤ W.heap.size := hW.size
  have HV : Hid (∀ W', FmP w0.heap.size g X W W' → w0.heap.size ≤ W'.heap.size → Calls Tryz.prog 239 #[.pointer (some ⟨g, 0, none⟩), .int .i64 tn] W' (FmPost w0.heap.size g (X ++ (ByteArray.mk #[35] ++ decS tn)) W)) := tuck fun W' hp hb => by
    have HI := tuck (itoa_any tn htn)
    have HC := tuck (wr_any w0.heap.size g X (ByteArray.mk #[35] ++ decS tn) W'.drew hp.fm.drew hsz hb)
    have HP : Hid (∀ W2, FmP w0.heap.size g (X ++ (ByteArray.mk #[35] ++ decS tn)) W'.drew W2 → FmPost w0.heap.size g (X ++ (ByteArray.mk #[35] ++ decS tn)) W (.returned (.tuple #[])) W2) := tuck fun W2 h => ⟨rfl, hp.drew.trans h⟩
    generalize FmPost w0.heap.size g (X ++ (ByteArray.mk #[35] ++ decS tn)) W = post at *
    have hds := decS_size tn
    have hsm : ¬ (9223372036854775807 < (ByteArray.mk #[35]).size + (decS tn).size) := by
      have h1 : (ByteArray.mk #[35]).size = 1 := rfl
      omega
    generalize decS tn = D at *
    clear hF hsz hp hds
    go_enter Tryz.func239, Tryz.ntmps239
    go_wp2_with fail
    go_region_with (first | (go_at_call 183; refine (HI.out _).mono ?_; rintro e w' ⟨rfl, rfl⟩) | (go_at_call 50; refine HC.out.mono ?_; rintro e w' ⟨rfl, hp⟩; have HP2 := tuck hp; clear hp))
    all_goals (go_wp2_with fail; go_end0; exact HP.out _ HP2.out)
  have hna : ∀ n w, (nilAhead (n + 1) 53 (.pointer (some ⟨g, 0, none⟩)) "loop.example/depkernel/impl.visitVar").run Tryz.prog w = .ok (some false) w := fun _ _ => by kernel_rfl
  have hm : ∀ n w, (method (n + 1) 53 (.pointer (some ⟨g, 0, none⟩)) "loop.example/depkernel/impl.visitVar").run Tryz.prog w = .ok (239, .pointer (some ⟨g, 0, none⟩)) w := fun _ _ => by kernel_rfl
  have HP : Hid (∀ e W2, FmPost w0.heap.size g (X ++ (ByteArray.mk #[35] ++ decS tn)) W e W2 → e = .returned (.tuple #[]) ∧ FmPost w0.heap.size g (X ++ (ByteArray.mk #[35] ++ decS tn)) W (.returned (.tuple #[])) W2) := tuck fun e W2 h => ⟨h.1, rfl, h.2⟩
  have HPB := tuck (((FmP.refl hF).alloc hB (.cells #[] 146)).alloc (by simp; omega) (.cells #[.int .i64 1, .int .i64 tn, s] 29))
  have HC := tuck (HV.out _ HPB.out (by simp; omega))
  generalize FmPost w0.heap.size g (X ++ (ByteArray.mk #[35] ++ decS tn)) W = post at *
  clear hW hF hsz hB HV HPB
  go_enter Tryz.func175, Tryz.ntmps175
  go_wp2_with fail
  refine HC.out.mono ?_
  rintro e w2 hp2
  obtain ⟨rfl, hp3⟩ := HP.out _ _ hp2
  have HP3 := tuck hp3
  clear hp2 hp3 HP HC
  go_wp2_with fail
  go_end0
  exact HP3.out

set_option maxRecDepth 100000 in
set_option maxHeartbeats 4000000 in
theorem acc_sort (w0 : World) (g : Nat) (tn : Nat) (htn : tn ≤ 20) (s : Value) (W : World) (X : ByteArray) (hW : Below w0.heap.size w0 W) (hF : Fm w0.heap.size g X W) (hsz : X.size + (ByteArray.mk #[42] ++ decS tn).size ≤ 1099511627776) :
    Calls Tryz.prog 180 #[.agg #[], .iface 53 (.pointer (some ⟨g, 0, none⟩)), .agg #[.int .i64 2, .int .i64 tn, s]] W (FmPost w0.heap.size g (X ++ (ByteArray.mk #[42] ++ decS tn)) W) := by
  have hB : w0.heap.size ≤ W.heap.size := hW.size
  have HV : Hid (∀ W', FmP w0.heap.size g X W W' → w0.heap.size ≤ W'.heap.size → Calls Tryz.prog 167 #[.pointer (some ⟨g, 0, none⟩), .int .i64 tn] W' (FmPost w0.heap.size g (X ++ (ByteArray.mk #[42] ++ decS tn)) W)) := tuck fun W' hp hb => by
    have HI := tuck (itoa_any tn htn)
    have HC := tuck (wr_any w0.heap.size g X (ByteArray.mk #[42] ++ decS tn) W'.drew hp.fm.drew hsz hb)
    have HP : Hid (∀ W2, FmP w0.heap.size g (X ++ (ByteArray.mk #[42] ++ decS tn)) W'.drew W2 → FmPost w0.heap.size g (X ++ (ByteArray.mk #[42] ++ decS tn)) W (.returned (.tuple #[])) W2) := tuck fun W2 h => ⟨rfl, hp.drew.trans h⟩
    generalize FmPost w0.heap.size g (X ++ (ByteArray.mk #[42] ++ decS tn)) W = post at *
    have hds := decS_size tn
    have hsm : ¬ (9223372036854775807 < (ByteArray.mk #[42]).size + (decS tn).size) := by
      have h1 : (ByteArray.mk #[42]).size = 1 := rfl
      omega
    generalize decS tn = D at *
    clear hF hsz hp hds
    go_enter Tryz.func167, Tryz.ntmps167
    go_wp2_with fail
    go_region_with (first | (go_at_call 183; refine (HI.out _).mono ?_; rintro e w' ⟨rfl, rfl⟩) | (go_at_call 50; refine HC.out.mono ?_; rintro e w' ⟨rfl, hp⟩; have HP2 := tuck hp; clear hp))
    all_goals (go_wp2_with fail; go_end0; exact HP.out _ HP2.out)
  have hna : ∀ n w, (nilAhead (n + 1) 53 (.pointer (some ⟨g, 0, none⟩)) "loop.example/depkernel/impl.visitSort").run Tryz.prog w = .ok (some false) w := fun _ _ => by kernel_rfl
  have hm : ∀ n w, (method (n + 1) 53 (.pointer (some ⟨g, 0, none⟩)) "loop.example/depkernel/impl.visitSort").run Tryz.prog w = .ok (167, .pointer (some ⟨g, 0, none⟩)) w := fun _ _ => by kernel_rfl
  have HP : Hid (∀ e W2, FmPost w0.heap.size g (X ++ (ByteArray.mk #[42] ++ decS tn)) W e W2 → e = .returned (.tuple #[]) ∧ FmPost w0.heap.size g (X ++ (ByteArray.mk #[42] ++ decS tn)) W (.returned (.tuple #[])) W2) := tuck fun e W2 h => ⟨h.1, rfl, h.2⟩
  have HPB := tuck (((FmP.refl hF).alloc hB (.cells #[] 147)).alloc (by simp; omega) (.cells #[.int .i64 2, .int .i64 tn, s] 29))
  have HC := tuck (HV.out _ HPB.out (by simp; omega))
  generalize FmPost w0.heap.size g (X ++ (ByteArray.mk #[42] ++ decS tn)) W = post at *
  clear hW hF hsz hB HV HPB
  go_enter Tryz.func180, Tryz.ntmps180
  go_wp2_with fail
  refine HC.out.mono ?_
  rintro e w2 hp2
  obtain ⟨rfl, hp3⟩ := HP.out _ _ hp2
  have HP3 := tuck hp3
  clear hp2 hp3 HP HC
  go_wp2_with fail
  go_end0
  exact HP3.out

end Go.Proofs.YteeafpnjpcgfaaaGreat
