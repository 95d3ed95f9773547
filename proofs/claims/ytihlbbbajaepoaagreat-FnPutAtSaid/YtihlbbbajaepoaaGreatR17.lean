/-
  TeleS, Open, LawT, TeleP, Ints, OpenB.
-/
import Derived.Test.YtihlbbbajaepoaaGreatR01
import Derived.Test.YtihlbbbajaepoaaGreatR04
import Derived.Test.YtihlbbbajaepoaaGreatR05
import Derived.Test.YtihlbbbajaepoaaGreatR07
import Derived.Test.YtihlbbbajaepoaaGreatR10
import Derived.Test.YtihlbbbajaepoaaGreatR11
import Derived.Test.YtihlbbbajaepoaaGreatR12
import Derived.Test.YtihlbbbajaepoaaGreatR13
import Derived.Test.YtihlbbbajaepoaaGreatR16
import Derived.Carry
import Derived.Deep.DeepCutAuto
import Derived.Deep.Slices
import Derived.Deep.Strs
import Derived.Laws.MakeOwn
import Derived.OpenShut
import Derived.ProofKit
import Derived.StillTailTactics
import Derived.Test.YtihlbbbajaepoaaGreatProg
import Derived.Test.YtihlbbbajaepoaaGreatRows
import Derived.WalkSpells
namespace Go.Proofs.YtihlbbbajaepoaaGreat
open Go.ChangeShapes Go.WideShapes Go.ChangeAt Go.RowKit Go.Deep
theorem own : ownKnob Tryz.prog.godebug = none := by kernel_rfl
section
variable {H : Type} {enc : TypeId × Value → H} {W : World}
set_option maxRecDepth 100000 in
theorem stays_all (hl : laidOutB Tryz.prog = true) {W' : World} {sp : Nat → Bool} (hb : Below W.heap.size W W') : ∀ (ts : List TypeId) (vs : List Value) (ds : List (DataW H)) (ps : List MemPlace), (∀ t ∈ ts, Tryz.prog.readableRec t = true ∧ t < Tryz.prog.types.size) →
  DataW.TrodAll enc Tryz.prog W 0 (fun _ => true) true ts vs ds ps → (∀ p ∈ ps, p.block < W.heap.size) → (∀ p ∈ ps, sp p.block = true) → DataW.TrodAll enc Tryz.prog W' 0 sp true ts vs ds ps
 | [], [], [], _, _, h, _, _ => h
 | t :: ts, v :: vs, d :: ds, ps, hr, ⟨p, q, h0, h1, e⟩, hlt, hsp => by
  subst e
  refine ⟨p, q, WideElems.Trod_stays hl (hr t (by simp)).1 (hr t (by simp)).2 h0 (fun x hx => hb.same (hlt x (by simp [hx]))) (fun x hx => hsp x (by simp [hx])), ?_, rfl⟩
  exact stays_all hl hb ts vs ds q (fun t ht => hr t (by simp [ht])) h1 (fun x hx => hlt x (by simp [hx])) (fun x hx => hsp x (by simp [hx]))
set_option maxRecDepth 100000 in
theorem law_post {f : Func} {s : ChangeSpec} {W' : World} {args : Array Value} {ds gs : List (DataW H)} {before : List MemPlace} (hf : f.resultTypes = #[4]) (hv : s.vars = [])
  (hs : ∀ gs, gs = [] → s.fn H (ds ++ gs) = { results := [.lit (.bool true)], args := ds }) (hr : ∀ t ∈ f.params.toList, Tryz.prog.readableRec t = true ∧ t < Tryz.prog.types.size)
  (hl : laidOutB Tryz.prog = true) (hW : DataW.Whole enc Tryz.prog f.params.toList s.vars false W args.toList ds gs before) (hb : Below W.heap.size W W') : s.post enc Tryz.prog f false true false false W args (.bool true) W' := by
 have hW0 := hW
 obtain ⟨p, q, hA, hV, rfl, _, _⟩ := hW
 have hlt := fun x hx => hW0.lt x hx
 have hg : gs = [] ∧ q = [] := by
  rw [hv] at hV
  cases gs with
  | nil => exact ⟨rfl, hV⟩
  | cons g gs => exact absurd hV (by simp [DataW.TrodVars])
 obtain ⟨rfl, rfl⟩ := hg
 refine ⟨ds, [], p ++ [], [], p, [], hW0, ?_, ?_, ?_, hb.frame _, fun h => by cases h⟩
 ·rw [hs [] rfl, hf]
  exact ⟨[], [], shut_bool Tryz.underlying4 _, rfl, rfl⟩
 ·rw [hs [] rfl]
  exact stays_all hl hb _ _ _ _ hr hA (fun x hx => hlt x (by simp [hx])) (fun x hx => by simpa using hlt x (by simp [hx]))
 ·rw [hv, hs [] rfl]
  rfl
end
end Go.Proofs.YtihlbbbajaepoaaGreat
namespace Go.Proofs.YtihlbbbajaepoaaGreat
open Go.ChangeShapes Go.WideShapes Go.ChangeAt Go.RowKit Go.Deep
instance : Inhabited Tm := ⟨.mk 0 0 []⟩
section
variable {H : Type} {enc : TypeId × Value → H} {W : World}
end
end Go.Proofs.YtihlbbbajaepoaaGreat
namespace Go.Proofs.YtihlbbbajaepoaaGreat
open Go.RowKit
end Go.Proofs.YtihlbbbajaepoaaGreat
namespace Go.Proofs.YtihlbbbajaepoaaGreat
open Go.RowKit
end Go.Proofs.YtihlbbbajaepoaaGreat
namespace Go.Proofs.YtihlbbbajaepoaaGreat
open Go.RowKit
theorem sameAt_set {w : World} {p : Addr} {u : Value} {g : Nat} (h : g ≠ p.block) : SameAt w (w.setCell p u) g := SameAt.of_block (Below.heap_setCell w p u g h)
theorem SameAt.trans {a b c : World} {g : Nat} (h : SameAt a b g) (k : SameAt b c g) : SameAt a c g := fun i => ⟨(k i).1.trans (h i).1, (k i).2.trans (h i).2⟩
end Go.Proofs.YtihlbbbajaepoaaGreat
namespace Go.Proofs.YtihlbbbajaepoaaGreat
open Go.RowKit
end Go.Proofs.YtihlbbbajaepoaaGreat
namespace Go.Proofs.YtihlbbbajaepoaaGreat
open Go.RowKit
theorem VarAt.set3 {g : Nat} {k n k' n' : Int} {s s' : Value} {w : World} (h : VarAt g k n s w) : VarAt g k' n' s' (((w.setCell ⟨g, 0, none⟩ (.int .i64 k')).setCell ⟨g, 1, none⟩ (.int .i64 n')).setCell ⟨g, 2, none⟩ s') := by
 have h0 : VarAt g k' n s (w.setCell ⟨g, 0, none⟩ (.int .i64 k')) := by
  have := block_set h 0 (.int .i64 k')
  simpa [VarAt] using this
 have h1 : VarAt g k' n' s ((w.setCell ⟨g, 0, none⟩ (.int .i64 k')).setCell ⟨g, 1, none⟩ (.int .i64 n')) := by
  have := block_set h0 1 (.int .i64 n')
  simpa [VarAt] using this
 have := block_set h1 2 s'
 simpa [VarAt] using this
end Go.Proofs.YtihlbbbajaepoaaGreat
namespace Go.Proofs.YtihlbbbajaepoaaGreat
open Go.ChangeShapes Go.WideShapes Go.ChangeAt Go.RowKit Go.Deep
theorem cells_u8 : Tryz.prog.cellsOf 5 = 1 := by kernel_rfl
set_option maxRecDepth 100000 in
theorem open_bytes {H : Type} {enc : TypeId × Value → H} {W : World} {v : Value} {d : DataW H} {ps : List MemPlace} (hok : Value.okWide Tryz.prog W .any 0 43 v) (h : DataW.Trod enc Tryz.prog W 0 (fun _ => true) true 43 v d ps) :
  ∃ (U : Nat → Int) (a : Option Addr) (b o len cap : Nat), v = .slice a len cap ∧ len ≤ cap ∧ cap ≤ maxLen ∧ (0 < len → b < W.heap.size) ∧ Bytes U a b o len W := by
 obtain ⟨a0, len, cap, rfl⟩ := okWide_slice Tryz.underlying43 hok
 obtain ⟨fuel, hf⟩ := h
 rcases open_ints Tryz.underlying43 Tryz.underlying5 cells_u8 hf with ⟨hcs, _⟩ | ⟨a, len', cap', zs, hcs, _, hl, hm, hz, _, hcell, hwz⟩
 ·simp [Value.cells] at hcs
  obtain ⟨rfl, rfl, rfl⟩ := hcs
  exact ⟨fun _ => 0, none, 0, 0, 0, 0, rfl, Nat.le_refl _, Nat.zero_le _, fun h => by omega, fun h => by omega, fun i hi => by omega⟩
 ·simp [Value.cells] at hcs
  obtain ⟨rfl, rfl, rfl⟩ := hcs
  simp only [if_true] at hz
  obtain ⟨b, o, spot⟩ := a
  have hsp : 0 < len → spot = none := fun h0 => by simpa [Addr.add] using World.cell?_spot (hcell 0 (by omega))
  have hc : ∀ i, i < len → W.cell? ⟨b, o + i, none⟩ = some (.int .u8 (zs.getD i 0)) := fun i hi => by
   have h1 := hsp (by omega)
   subst h1
   have h2 := hcell i (by omega)
   have ea : (Addr.mk b o none).add i = ⟨b, o + i, none⟩ := by unfold Addr.add; split <;> simp_all
   rwa [ea] at h2
  refine ⟨fun i => zs.getD i 0, some ⟨b, o, spot⟩, b, o, len, cap, rfl, hl, hm, fun h0 => World.block_lt_of_cell? W _ (hc 0 h0), fun h0 => by rw [hsp h0], fun i hi => ⟨hc i hi, ?_⟩⟩
  have hi2 : i < zs.length := by omega
  have hw := hwz _ (List.getElem_mem hi2)
  have e : zs.getD i 0 = zs[i] := by simp [hi2]
  show 0 ≤ zs.getD i 0 ∧ zs.getD i 0 ≤ 255
  rw [e]
  simpa [Lit.wf, IntKind.min, IntKind.max, IntKind.signed, IntKind.bits] using hw
end Go.Proofs.YtihlbbbajaepoaaGreat
namespace Go.Proofs.YtihlbbbajaepoaaGreat
open Go.RowKit
def Ints (w : World) (B : Nat) (N : Int → Int) (len : Nat) (v : Value) : Prop :=
 ∃ a cap b o, v = .slice a len cap ∧ (0 < len → a = some ⟨b, o, none⟩ ∧ B ≤ b ∧ b < w.heap.size) ∧ ∀ i : Nat, i < len → w.cell? ⟨b, o + i, none⟩ = some (.int .i64 (N i))
theorem Ints.below {w w' : World} {B : Nat} {N : Int → Int} {len : Nat} {v : Value} (h : Ints w B N len v) (hb : Below w.heap.size w w') : Ints w' B N len v := by
 obtain ⟨a, cap, b, o, rfl, h1, h2⟩ := h
 exact ⟨a, cap, b, o, rfl, fun h => ⟨(h1 h).1, (h1 h).2.1, Nat.lt_of_lt_of_le (h1 h).2.2 hb.size⟩, fun i hi => (hb.cell (p := ⟨b, o + i, none⟩) (h1 (by omega)).2.2).trans (h2 i hi)⟩
theorem Ints.mono {w : World} {B B' : Nat} {N : Int → Int} {len : Nat} {v : Value} (h : Ints w B N len v) (hB : B' ≤ B) : Ints w B' N len v := by
 obtain ⟨a, cap, b, o, rfl, h1, h2⟩ := h
 exact ⟨a, cap, b, o, rfl, fun h => ⟨(h1 h).1, Nat.le_trans hB (h1 h).2.1, (h1 h).2.2⟩, h2⟩
theorem Ints.form {w : World} {B : Nat} {N : Int → Int} {len : Nat} {v : Value} (h : Ints w B N len v) : ∃ a cap, v = .slice a len cap := by
 obtain ⟨a, cap, _, _, h1, _⟩ := h
 exact ⟨a, cap, h1⟩
theorem info_int : (Tryz.prog.info? 3).map (fun i => (i.zero, i.size, i.bytes)) = some (some (.int .i64 0), 1, 8) := by kernel_rfl
end Go.Proofs.YtihlbbbajaepoaaGreat
namespace Go.Proofs.YtihlbbbajaepoaaGreat
open Go.RowKit
def TlPost (w : World) (T : Tm) (e : Ending) (w' : World) : Prop := Below w.heap.size w w' ∧ ∃ (a : Option Addr) (c : Nat), e = .returned (.agg #[.int .i64 T.kind, .int .i64 T.num, .slice a T.kids.length c]) ∧ SlIn w' w.heap.size T.kids (.slice a T.kids.length c)
theorem MadePost.tl {w w' : World} {T : Tm} {e : Ending} (h : MadePost w T e w') : TlPost w T e w' := by
 obtain ⟨hb, v, rfl, s, F, rfl, hs, -, hF⟩ := h
 obtain ⟨a, c, rfl⟩ := hs.form
 exact ⟨hb, a, c, rfl, hs.sl fun g hg => (hF g hg).1⟩
theorem tl_copyS (t : Tm) (ht : sizes t.kids ≤ 1000000) (w : World) (s : Value) (hs : SlIn w 0 t.kids s) : Calls Tryz.prog 63 #[.agg #[.int .i64 t.kind, .int .i64 t.num, s]] w (TlPost w t) := by
 have h := lcopy_any t.kids t.kind t.num w s ht hs
 rw [Tm.eta] at h
 exact h.mono fun _ _ h => h.tl
def MdPost (w : World) (T : Tm) (s : Value) (e : Ending) (w' : World) : Prop := Below w.heap.size w w' ∧ ((T.Valid ∧ e = .returned (.tuple #[.agg #[.int .i64 T.kind, .int .i64 T.num, s], .bool true])) ∨ (¬ T.Valid ∧ e = .returned (.tuple #[.agg #[.int .i64 0, .int .i64 0, .slice none 0 0], .bool false])))
set_option maxRecDepth 100000 in
theorem madeS_any (t : Tm) (w : World) (s : Value) (h : SlIn w 0 t.kids s) : Calls Tryz.prog 70 #[.agg #[.int .i64 t.kind, .int .i64 t.num, s]] w (MdPost w t s) := by
 obtain ⟨sa, sc, rfl⟩ := h.form
 have HS := tuck h
 clear h
 have HV : Hid (∀ w', SlIn w' 0 t.kids (.slice sa t.kids.length sc) → Calls Tryz.prog 46 #[.agg #[.int .i64 t.kind, .int .i64 t.num, .slice sa t.kids.length sc]] w' (BoolPost w' (tr t.Valid))) := tuck fun w' h => validS_any t w' _ ⟨_, rfl, h⟩
 have hb2 := below2 w (.cells #[.int .i64 t.kind, .int .i64 t.num, .slice sa t.kids.length sc] 34) (.cells #[.int .i64 0, .int .i64 0, .slice none 0 0] 34)
 have HV0 := tuck ((VarAt.new w t.kind t.num (.slice sa t.kids.length sc)).below (below1 _ (.cells #[.int .i64 0, .int .i64 0, .slice none 0 0] 34)))
 have HV1 := tuck (var_new1 w (.cells #[.int .i64 t.kind, .int .i64 t.num, .slice sa t.kids.length sc] 34) 0 0 (.slice none 0 0))
 have HB2 := tuck hb2
 clear hb2
 have HPY : Hid (tr t.Valid = true → ∀ w', Below w.heap.size w w' → MdPost w t (.slice sa t.kids.length sc) (.returned (.tuple #[.agg #[.int .i64 t.kind, .int .i64 t.num, .slice sa t.kids.length sc], .bool true])) w') := tuck fun h w' hb => ⟨hb, Or.inl ⟨tr_iff.1 h, rfl⟩⟩
 have HPN : Hid (tr t.Valid = false → ∀ w', Below w.heap.size w w' → MdPost w t (.slice sa t.kids.length sc) (.returned (.tuple #[.agg #[.int .i64 0, .int .i64 0, .slice none 0 0], .bool false])) w') := tuck fun h w' hb => ⟨hb, Or.inr ⟨tr_false.1 h, rfl⟩⟩
 generalize MdPost w t (.slice sa t.kids.length sc) = post at *
 generalize tr t.Valid = ok at *
 go_enter Tryz.func70, Tryz.ntmps70
 go_wp2_with fail
 generalize ((w.alloc (.cells #[.int .i64 t.kind, .int .i64 t.num, .slice sa t.kids.length sc] 34)).alloc (.cells #[.int .i64 0, .int .i64 0, .slice none 0 0] 34)) = W0 at *
 refine (HV.out _ (HS.out.below HB2.out)).mono ?_
 rintro e w1 ⟨rfl, hb1⟩
 obtain ⟨z0, a0, a1, a2, -⟩ := (HV0.out.below hb1).facts
 obtain ⟨z1, r0, r1, r2, rf⟩ := (HV1.out.below hb1).facts
 have HB := tuck (bAfter HB2.out hb1)
 clear hb1 HV0 HV1 HB2
 cases ok
 ·go_wp2_with fail
  refine bodyPost_ret (v := .tuple #[.agg #[.int .i64 0, .int .i64 0, .slice none 0 0], .bool false]) (by simp [results, Tryz.results70, go_sem, *]) rfl (HPN.out (by trivial) _ ?_)
  first | exact bSet3 HB.out (Nat.le_succ _) _ _ _ _ _ _ | exact HB.out
 ·go_wp2_with fail
  refine bodyPost_ret (v := .tuple #[.agg #[.int .i64 t.kind, .int .i64 t.num, .slice sa t.kids.length sc], .bool true]) (by simp [results, Tryz.results70, go_sem, *]) rfl (HPY.out (by trivial) _ ?_)
  exact bSet3 HB.out (Nat.le_succ _) _ _ _ _ _ _
end Go.Proofs.YtihlbbbajaepoaaGreat
namespace Go.Proofs.YtihlbbbajaepoaaGreat
open Go.RowKit
def TlRes (w : World) (P : Prop) (T : Tm) (e : Ending) (w' : World) : Prop := Below w.heap.size w w' ∧ ∃ (a : Option Addr) (c : Nat), e = .returned (.tuple #[.agg #[.int .i64 (orZero P T).kind, .int .i64 (orZero P T).num, .slice a (orZero P T).kids.length c], .bool (tr P)]) ∧ SlIn w' w.heap.size (orZero P T).kids (.slice a (orZero P T).kids.length c)
theorem TlRes.no {w w' : World} {P : Prop} {T : Tm} (hP : ¬ P) (hb : Below w.heap.size w w') : TlRes w P T (.returned (.tuple #[.agg #[.int .i64 0, .int .i64 0, .slice none 0 0], .bool false])) w' := by
 have h : orZero P T = zeroT := by unfold orZero; rw [if_neg hP]
 refine ⟨hb, none, 0, ?_, ?_⟩
 ·rw [h, tr_not hP]; rfl
 ·rw [h]; exact SlIn.nil _ _ _ _
theorem TlRes.yes {w w' : World} {P : Prop} {T : Tm} {a : Option Addr} {c : Nat} (hP : P) (hb : Below w.heap.size w w') (hs : SlIn w' w.heap.size T.kids (.slice a T.kids.length c)) : TlRes w P T (.returned (.tuple #[.agg #[.int .i64 T.kind, .int .i64 T.num, .slice a T.kids.length c], .bool true])) w' := by
 have h : orZero P T = T := by unfold orZero; rw [if_pos hP]
 refine ⟨hb, a, c, ?_, ?_⟩
 ·rw [h, tr_of hP]
 ·rw [h]; exact hs
end Go.Proofs.YtihlbbbajaepoaaGreat
