/-
  Open.
-/
import Derived.Test.YteeafpnjpcgfaaaGreatB01
import Derived.Carry
import Derived.Deep.Slices
import Derived.Deep.Strs
import Derived.OpenShut
import Derived.ProofKit
import Derived.Test.YteeafpnjpcgfaaaGreatRows
namespace Go.Proofs.YteeafpnjpcgfaaaGreat
open Go.ChangeShapes Go.WideShapes Go.ChangeAt Go.RowKit Go.Deep
theorem own : ownKnob Tryz.prog.godebug = none := by kernel_rfl
section
variable {H : Type} {enc : TypeId × Value → H} {W : World}
set_option maxRecDepth 100000 in
theorem stays_all (hl : laidOutB Tryz.prog = true) {W' : World} {sp : Nat → Bool} (hb : Below W.heap.size W W') : ∀ (ts : List TypeId) (vs : List Value) (ds : List (DataW H)) (ps : List MemPlace), (∀ t ∈ ts, Tryz.prog.readableRec t = true ∧ t < Tryz.prog.types.size) →
  DataW.TrodAll enc Tryz.prog W 0 (fun _ => true) true ts vs ds ps → (∀ p ∈ ps, p.block < W.heap.size) → (∀ p ∈ ps, sp p.block = true) → DataW.TrodAll enc Tryz.prog W' 0 sp true ts vs ds ps
 | [], [], [], _, _, h, _, _ => h
 | t :: ts, v :: vs, d :: ds, ps, hr, ⟨p, q, h0, h1, e⟩, hlt, hsp => by
  subst e
  refine ⟨p, q, WideElems.Trod_stays hl (hr t (by simp)).1 (hr t (by simp)).2 h0 (fun x hx => hb.same (hlt x (by simp [hx]))) (fun x hx => hsp x (by simp [hx])), ?_, rfl⟩
  exact stays_all hl hb ts vs ds q (fun t ht => hr t (by simp [ht])) h1 (fun x hx => hlt x (by simp [hx])) (fun x hx => hsp x (by simp [hx]))
set_option maxRecDepth 100000 in
theorem law_post {f : Func} {s : ChangeSpec} {W' : World} {args : Array Value} {ds gs : List (DataW H)} {before : List MemPlace} (hf : f.resultTypes = #[4]) (hv : s.vars = [])
  (hs : ∀ gs, gs = [] → s.fn H (ds ++ gs) = { results := [.lit (.bool true)], args := ds }) (hr : ∀ t ∈ f.params.toList, Tryz.prog.readableRec t = true ∧ t < Tryz.prog.types.size)
  (hl : laidOutB Tryz.prog = true) (hW : DataW.Whole enc Tryz.prog f.params.toList s.vars false W args.toList ds gs before) (hb : Below W.heap.size W W') : s.post enc Tryz.prog f false true false false W args (.bool true) W' := by
 have hW0 := hW
 obtain ⟨p, q, hA, hV, rfl, _, _⟩ := hW
 have hlt := fun x hx => hW0.lt x hx
 have hg : gs = [] ∧ q = [] := by
  rw [hv] at hV
  cases gs with
  | nil => exact ⟨rfl, hV⟩
  | cons g gs => exact absurd hV (by simp [DataW.TrodVars])
 obtain ⟨rfl, rfl⟩ := hg
 refine ⟨ds, [], p ++ [], [], p, [], hW0, ?_, ?_, ?_, hb.frame _, fun h => by cases h⟩
 ·rw [hs [] rfl, hf]
  exact ⟨[], [], shut_bool Tryz.underlying4 _, rfl, rfl⟩
 ·rw [hs [] rfl]
  exact stays_all hl hb _ _ _ _ hr hA (fun x hx => hlt x (by simp [hx])) (fun x hx => by simpa using hlt x (by simp [hx]))
 ·rw [hv, hs [] rfl]
  rfl
end
end Go.Proofs.YteeafpnjpcgfaaaGreat
namespace Go.Proofs.YteeafpnjpcgfaaaGreat
open Go.ChangeShapes Go.WideShapes Go.ChangeAt Go.RowKit Go.Deep
theorem cells_lterm : Tryz.prog.cellsOf 24 = 3 := by kernel_rfl
theorem cells_lslice : Tryz.prog.cellsOf 22 = 1 := by kernel_rfl
theorem cells_int : Tryz.prog.cellsOf 3 = 1 := by kernel_rfl
instance : Inhabited Tm := ⟨.mk 0 0 []⟩
section
variable {H : Type} {enc : TypeId × Value → H} {W : World}
theorem SlIn.of_range {w : World} {b o len cap : Nat} {a : Option Addr} {T : Nat → Tm} (hl : len ≤ maxLen) (ha : 0 < len → a = some ⟨b, o, none⟩) (h : ∀ i, i < len → TmAt w 0 (T i) b (o + i * 3)) : SlIn w 0 ((List.range len).map T) (.slice a len cap) := by
 refine ⟨a, cap, b, o, by simp, by simpa using hl, fun hn => ⟨ha ?_, Nat.zero_le _⟩, RowAt.of_get fun i hi => ?_⟩
 ·rcases Nat.eq_zero_or_pos len with h0 | h0
  ·subst h0; simp at hn
  ·exact h0
 ·simp only [List.length_map, List.length_range] at hi
  simpa using h i hi
set_option maxRecDepth 100000 in
theorem open_termN : ∀ (N : Nat) (d : DataW H), SizeOf.sizeOf d ≤ N → ∀ (n : Nat) (cs : List Value) (ps : List MemPlace), DataW.trod enc Tryz.prog W 0 (fun _ => true) true n 24 cs = some (d, ps) →
  ∃ (t : Tm) (s : Value), cs = [.int .i64 t.kind, .int .i64 t.num, s] ∧ SlIn W 0 t.kids s := by
 intro N
 induction N with
 | zero => intro d hd; exfalso; cases d <;> simp at hd
 | succ N ih =>
  intro d hd n cs ps h
  obtain ⟨y0, y1, y2, m, hx, hlen, h0, h1, h2⟩ := trod_struct3 Tryz.underlying24 h
  rw [cells_lterm] at hlen
  simp only [Prod.mk.injEq] at hx
  match cs, hlen with
  | [c0, c1, c2], _ =>
   simp only [cells_int, cells_lslice] at h0 h1 h2
   obtain ⟨k, e0, rfl, _⟩ := DataW.trod_int Tryz.underlying3 h0
   obtain ⟨nn, e1, rfl, _⟩ := DataW.trod_int Tryz.underlying3 h1
   simp at e0 e1
   subst e0 e1
   have h2' : DataW.trod enc Tryz.prog W 0 (fun _ => true) true m 22 [c2] = some y2 := h2
   rcases open_slice Tryz.underlying22 h2' with ⟨hc, hy⟩ | ⟨a, len, cap, mm, q, D, Pl, hc, _, hl, hm, hmm, hy, hall⟩
   ·simp at hc
    subst hc
    exact ⟨.mk k nn [], _, rfl, SlIn.nil _ _ _ _⟩
   ·simp at hc
    subst hc
    simp only [if_true] at hmm
    subst hmm
    rw [cells_lterm] at hall
    have hone : ∀ i, i < len → ∃ t s, W.cell? (a.add (i * 3)) = some (.int .i64 (Tm.kind t)) ∧ W.cell? ((a.add (i * 3)).add 1) = some (.int .i64 (Tm.num t)) ∧ W.cell? ((a.add (i * 3)).add 2) = some s ∧ SlIn W 0 (Tm.kids t) s := by
     intro i hi
     obtain ⟨cs', g1, g2⟩ := hall i (by omega)
     have hsz : SizeOf.sizeOf (D i) ≤ N := by
      have hmem : D i ∈ (List.range len).map D := List.mem_map.2 ⟨i, List.mem_range.2 hi, rfl⟩
      have := List.sizeOf_lt_of_mem hmem
      rw [hx.1, hy] at hd
      simp at hd
      omega
     obtain ⟨t, s, rfl, hs⟩ := ih (D i) hsz q cs' (Pl i) g2
     obtain ⟨_, _, hcell⟩ := World.cells?_some g1
     exact ⟨t, s, by simpa [Addr.add] using hcell 0 (by omega), by simpa using hcell 1 (by omega), by simpa using hcell 2 (by omega), hs⟩
    obtain ⟨T, hT⟩ := choose_lt (α := Tm) (p := fun i t => ∃ s, W.cell? (a.add (i * 3)) = some (.int .i64 (Tm.kind t)) ∧ W.cell? ((a.add (i * 3)).add 1) = some (.int .i64 (Tm.num t)) ∧ W.cell? ((a.add (i * 3)).add 2) = some s ∧ SlIn W 0 (Tm.kids t) s) hone
    obtain ⟨b, o, spot⟩ := a
    refine ⟨.mk k nn ((List.range len).map T), _, rfl, SlIn.of_range (b := b) (o := o) (by omega) (fun h0 => ?_) (fun i hi => ?_)⟩
    ·obtain ⟨s, g0, _⟩ := hT 0 h0
     have : spot = none := by simpa [Addr.add] using World.cell?_spot g0
     rw [this]
    ·obtain ⟨s0, g0, _⟩ := hT 0 (by omega)
     have : spot = none := by simpa [Addr.add] using World.cell?_spot g0
     subst this
     obtain ⟨s, g0, g1, g2, hs⟩ := hT i hi
     have ea : ∀ j, (Addr.mk b o none).add j = ⟨b, o + j, none⟩ := fun j => by unfold Addr.add; split <;> simp_all
     have eb : ∀ x j, (Addr.mk b x none).add j = ⟨b, x + j, none⟩ := fun x j => by unfold Addr.add; split <;> simp_all
     rw [ea] at g0
     rw [ea, eb] at g1 g2
     exact TmAt_iff.2 ⟨s, g0, g1, g2, hs⟩
set_option maxRecDepth 100000 in
theorem open_term {v : Value} {d : DataW H} {ps : List MemPlace} (hok : Value.okWide Tryz.prog W .any 0 24 v) (h : DataW.Trod enc Tryz.prog W 0 (fun _ => true) true 24 v d ps) : ∃ t, TmIn W 0 t v := by
 obtain ⟨cs, rfl, _⟩ := okWide_struct Tryz.underlying24 hok
 obtain ⟨n, hn⟩ := h
 obtain ⟨t, s, hcs, hs⟩ := open_termN _ d (Nat.le_refl _) n _ ps hn
 refine ⟨t, s, ?_, hs⟩
 obtain ⟨l⟩ := cs
 simp [Value.cells] at hcs
 rw [hcs]
end
end Go.Proofs.YteeafpnjpcgfaaaGreat
