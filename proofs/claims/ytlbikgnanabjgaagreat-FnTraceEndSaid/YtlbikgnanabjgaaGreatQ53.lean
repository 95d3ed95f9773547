/-
  TrC.
-/
import Derived.Test.YtlbikgnanabjgaaGreatQ21
import Derived.Test.YtlbikgnanabjgaaGreatQ32
import Derived.Test.YtlbikgnanabjgaaGreatQ34
import Derived.Test.YtlbikgnanabjgaaGreatQ52
import Derived.Deep.AppendLies
namespace Go.Proofs.YtlbikgnanabjgaaGreat
open Go.RowKit Go.Shelf
set_option linter.unusedVariables false
set_option linter.unusedSimpArgs false
attribute [local go_sem] Oper.semAt_some
def TrOwn (w : World) (L : List Tm) (e : Ending) (w' : World) : Prop := Below w.heap.size w w' ∧ ∃ (a : Option Addr) (c : Nat) (F : List Nat), e = .returned (.slice a L.length c) ∧ SlOwn w' L (.slice a L.length c) F ∧ F.Nodup ∧ ∀ g ∈ F, w.heap.size ≤ g ∧ g < w'.heap.size
theorem TrAt.to {L : List Tm} {b k : Nat} {x : Value × Nat} {M : Nat → Prop} {A B : World} (h : TrAt L b k x M A) (hz : A.heap.size ≤ B.heap.size) (hk : ∀ i, M i → B.heap[i]? = A.heap[i]?) (hc : ∀ (p : Addr) (u : Value), ¬ NL b A p.block → A.cell? p = some u → B.cell? p = some u)
  (hnew : ∀ i, NL b B i → NL b A i ∨ A.heap.size ≤ i) (hlt : ∀ i, NL b B i → i < B.heap.size) (hml : ∀ i, M i → i < A.heap.size) : TrAt L b k x M B := by
 obtain ⟨T, a, c, h1, h2, h3, h4, h5, h6, h7⟩ := h
 have ho : ∀ (p : Addr) (u : Value), ¬ Or2 M (NL b A) p.block → A.cell? p = some u → ¬ Or2 M (NL b B) p.block ∧ B.cell? p = some u := fun p u hn hp => ⟨by
  rintro (hm | hm)
  ·exact hn (Or.inl hm)
  ·rcases hnew _ hm with hm | hm
   ·exact hn (Or.inr hm)
   ·have := World.block_lt_of_cell? A p hp
    omega, hc p u (fun h => hn (Or.inr h)) hp⟩
 have hg : M x.2 := h5.own.1
 refine ⟨T, a, c, h1, h2, hc _ _ (h6 _ hg) h3, h4.to ho, h5.keep hk ho, fun i hi hn => ?_, hlt⟩
 rcases hnew i hn with h | h
 ·exact h6 i hi h
 ·have := hml i hi
  omega
theorem TrAt.ml {L : List Tm} {b k : Nat} {x : Value × Nat} {M : Nat → Prop} {A : World} (h : TrAt L b k x M A) : (∀ i, M i → i < A.heap.size) ∧ (∀ i, M i → ¬ NL b A i) ∧ ∀ i, NL b A i → i < A.heap.size := by
 obtain ⟨T, a, c, h1, h2, h3, h4, h5, h6, h7⟩ := h
 exact ⟨fun i hi => (h5.own.2 i hi).2, h6, h7⟩
theorem TrAt.below {L : List Tm} {b k : Nat} {x : Value × Nat} {M : Nat → Prop} {A B : World} (h : TrAt L b k x M A) (hb : Below A.heap.size A B) : TrAt L b k x M B := by
 obtain ⟨h1, h2, h3⟩ := h.ml
 have hn : NL b B = NL b A := NL.congr (hb.cell (p := ⟨b, 0, none⟩) (h3 b (Or.inl rfl)))
 exact h.to hb.size (fun i hi => hb.block i (h1 i hi)) (fun p u _ hp => (hb.cell (World.block_lt_of_cell? A p hp)).trans hp) (fun i hi => Or.inl (by rwa [hn] at hi)) (fun i hi => by rw [hn] at hi; exact Nat.lt_of_lt_of_le (h3 i hi) hb.size) h1
theorem putObj_cell {A : World} {r : Nat} {o o' : Obj} (ho : A.heap[r]? = some o) (hc : o.isCells = false) {p : Addr} {u : Value} (hp : A.cell? p = some u) : (A.putObj r o').cell? p = some u :=
 cell_kept hp (⟨rfl, rfl, rfl, by simp [World.putObj], fun i _ hn => World.putObj_heap_other (fun e => hn (by rw [e]))⟩ : A.grownBy (A.putObj r o') (some r)) (fun r' e => by cases e; exact ⟨o, ho, hc⟩)
theorem TrAt.putObj {L : List Tm} {b k : Nat} {x : Value × Nat} {M : Nat → Prop} {A : World} {r : Nat} {o o' : Obj} (h : TrAt L b k x M A) (ho : A.heap[r]? = some o) (hc : o.isCells = false) (hr : ¬ M r) (hbr : b ≠ r) : TrAt L b k x M (A.putObj r o') := by
 obtain ⟨h1, h2, h3⟩ := h.ml
 have hn : NL b (A.putObj r o') = NL b A := NL.congr (World.cell?_of_block (World.putObj_heap_other (show (⟨b, 0, none⟩ : Addr).block ≠ r from hbr)))
 exact h.to (by simp [World.putObj]) (fun i hi => World.putObj_heap_other (fun e => hr (e ▸ hi))) (fun p u _ hp => putObj_cell ho hc hp) (fun i hi => Or.inl (by rwa [hn] at hi)) (fun i hi => by rw [hn] at hi; simpa [World.putObj] using h3 i hi) h1
theorem set_oneT {W : World} {b : Nat} {v v' : Value} {T : TypeId} (h : W.heap[b]? = some (.cells #[v] T (0, 0))) : (W.setCell ⟨b, 0, none⟩ v').heap[b]? = some (.cells #[v'] T (0, 0)) := by
 have := block_set h 0 v'
 simpa using this
def TrI (w : World) (L : List Tm) (lb n0 k : Nat) (M : Nat → Prop) (A : World) : Prop := Below w.heap.size w A ∧ ∃ v F, A.heap[lb]? = some (.cells #[v] 23 (0, 0)) ∧ RowG (n0 + 2) (L.take k) v F A ∧ (∀ i, M i → v.ownBlock ≠ some i ∧ i ∉ F) ∧ n0 ≤ A.heap.size
theorem tr_round {w W Wb w5 : World} {L : List Tm} {lb n0 k : Nat} {M : Nat → Prop} {T : Tm} {va : Option Addr} {vc : Nat} {F F2 : List Nat} {x : Value × Nat} {s : Value} {gg gcap : Nat} {xs : List Value} (hwl : w.heap.size ≤ lb) (hl3 : lb < n0) (hz : n0 + 2 ≤ W.heap.size) (hk : L[k]? = some T)
  (i1 : Below w.heap.size w W) (i2 : W.heap[lb]? = some (.cells #[.slice va k vc] 23 (0, 0))) (i3 : RowG (n0 + 2) (L.take k) (.slice va k vc) F W) (i4 : ∀ i, M i → (Value.slice va k vc).ownBlock ≠ some i ∧ i ∉ F) (hA : TrAt L lb k x M W)
  (hb : Below W.heap.size W Wb) (hxs : Wb.ownsRow (n0 + 2) 25 3 (.slice va k vc) k xs) (hs : SlOwn Wb T.kids s F2) (hnd : F2.Nodup) (hF2 : ∀ g ∈ F2, W.heap.size ≤ g ∧ g < Wb.heap.size)
  (h5 : w5.ownsRow (n0 + 2) 25 3 (.slice (some ⟨gg, 0, none⟩) (k + 1) gcap) (k + 1) (xs ++ [.int .i64 0, .int .i64 0, .slice none 0 0])) (hgrow : Wb.grownBy w5 (Value.slice va k vc).ownBlock) (hat : (Value.slice va k vc).ownBlock = some gg ∨ gg = Wb.heap.size) (hlt : gg < w5.heap.size)
  (W6 : World) (e6 : W6 = (((w5.setCell ⟨gg, k * 3, none⟩ (.int .i64 T.kind)).setCell ⟨gg, k * 3 + 1, none⟩ (.int .i64 T.num)).setCell ⟨gg, k * 3 + 2, none⟩ s).setCell ⟨lb, 0, none⟩ (.slice (some ⟨gg, 0, none⟩) (k + 1) gcap)) :
  KeepsFrom n0 W W6 ∧ TrI w L lb n0 (k + 1) M W6 ∧ TrAt L lb k x M W6 := by
 have hLk : k < L.length := (List.getElem?_eq_some_iff.1 hk).1
 have hLt : (L.take k).length = k := by rw [List.length_take]; omega
 have hlt3 := i3.lt
 have hflt3 := i3.flt
 obtain ⟨m1, m2, m3⟩ := hA.ml
 have hbz := hb.size
 have hF2' : ∀ g ∈ F2, n0 + 2 ≤ g ∧ g < Wb.heap.size ∧ g ∉ F ∧ (Value.slice va k vc).ownBlock ≠ some g := fun g hg => by
  have h1 := hF2 g hg
  exact ⟨by omega, h1.2, fun hf => by have := (hflt3 g hf).2.1; omega, fun e => by have := (hlt3 g e).2; omega⟩
 obtain ⟨p1, p2⟩ := tr_push (i3.below hb) hLt hxs hs hnd hF2' h5 hgrow hat
 obtain ⟨V, hV⟩ : ∃ V, V = ((w5.setCell ⟨gg, k * 3, none⟩ (.int .i64 T.kind)).setCell ⟨gg, k * 3 + 1, none⟩ (.int .i64 T.num)).setCell ⟨gg, k * 3 + 2, none⟩ s := ⟨_, rfl⟩
 rw [← hV] at p1 p2 e6
 have hVz : V.heap.size = w5.heap.size := by rw [hV]; simp [World.setCell]
 have hVg : V.os = w5.os ∧ V.tape = w5.tape ∧ V.output = w5.output := by rw [hV]; exact ⟨rfl, rfl, rfl⟩
 have h6z : W6.heap.size = w5.heap.size := by rw [e6, ← hVz]; simp [World.setCell]
 have hgz := hgrow.size
 have hnl : (Value.slice va k vc).ownBlock ≠ some lb := fun e => by have := (hlt3 lb e).1; omega
 have hkeep : ∀ i, i < W.heap.size → i ≠ lb → (Value.slice va k vc).ownBlock ≠ some i → W6.heap[i]? = W.heap[i]? := fun i hi h1 h2 => by
  rw [e6, Below.heap_setCell _ _ _ _ h1, p2 i (by omega) h2]
  exact hb.block i hi
 have hVl : V.heap[lb]? = some (.cells #[.slice va k vc] 23 (0, 0)) := by
  rw [p2 lb (by omega) hnl, hb.block lb (by omega)]
  exact i2
 have h6l : W6.heap[lb]? = some (.cells #[.slice (some ⟨gg, 0, none⟩) (k + 1) gcap] 23 (0, 0)) := by
  rw [e6]
  exact set_oneT hVl
 have hcW : W.cell? ⟨lb, 0, none⟩ = some (.slice va k vc) := ((block_of_cells i2).2.1 0).trans (by simp)
 have hc6 : W6.cell? ⟨lb, 0, none⟩ = some (.slice (some ⟨gg, 0, none⟩) (k + 1) gcap) := ((block_of_cells h6l).2.1 0).trans (by simp)
 have hNW : ∀ i, NL lb W i ↔ i = lb ∨ (Value.slice va k vc).ownBlock = some i := fun i => by
  unfold NL
  rw [hcW]
  simp
 have hN6 : ∀ i, NL lb W6 i ↔ i = lb ∨ i = gg := fun i => by
  unfold NL
  rw [hc6]
  simp [Value.ownBlock, eq_comm]
 refine ⟨⟨by omega, fun i o hB ho hc => ?_⟩, ⟨?_, _, F ++ F2, h6l, ?_, fun i hi => ?_, by omega⟩, ?_⟩
 ·have hi := (Array.getElem?_eq_some_iff.1 ho).1
  refine (hkeep i hi (by omega) fun e => ?_).trans ho
  obtain ⟨rs, -, -, hown, -⟩ := i3
  rcases hown.2 with ⟨h1, -⟩ | ⟨g', cap', cur, h1, -, hgg, -⟩
  ·rw [h1] at e
   cases e
  ·rw [h1] at e
   cases e
   rw [hgg] at ho
   cases ho
   cases hc
 ·exact ⟨by rw [e6]; exact hVg.1.trans (hgrow.os.trans (hb.os.trans i1.os)), by rw [e6]; exact hVg.2.1.trans (hgrow.tape.trans (hb.tape.trans i1.tape)), by rw [e6]; exact hVg.2.2.trans (hgrow.output.trans (hb.output.trans i1.output)), by have := i1.size; omega, fun i hi => (hkeep i (by omega) (by omega) (fun e => by have := (hlt3 i e).1; omega)).trans (i1.block i hi)⟩
 ·have e : L.take (k + 1) = L.take k ++ [T] := by
   rw [List.take_add_one, hk]
   rfl
  rw [e, e6]
  exact p1.setCell (p := ⟨lb, 0, none⟩) (by show lb < n0 + 2; omega) _
 ·have hM := m1 i hi
  refine ⟨fun e => ?_, fun e => ?_⟩
  ·have e' : gg = i := by simpa [Value.ownBlock] using e
   rcases hat with h | h
   ·exact (i4 i hi).1 (by rw [h, e'])
   ·omega
  ·rcases List.mem_append.1 e with e | e
   ·exact (i4 i hi).2 e
   ·have := (hF2 i e).1
    omega
 ·refine hA.to (by omega) (fun i hi => hkeep i (m1 i hi) (fun e => m2 i hi (by rw [e]; exact Or.inl rfl)) (i4 i hi).1) (fun p u hn hp => ?_) (fun i hi => ?_) (fun i hi => ?_) m1
  ·have hpb := World.block_lt_of_cell? W p hp
   exact (World.cell?_of_block (hkeep p.block hpb (fun e => hn (by rw [e]; exact Or.inl rfl)) (fun e => hn ((hNW _).2 (Or.inr e))))).trans hp
  ·rcases (hN6 i).1 hi with rfl | rfl
   ·exact Or.inl (Or.inl rfl)
   ·rcases hat with h | h
    ·exact Or.inl ((hNW _).2 (Or.inr h))
    ·exact Or.inr (by omega)
  ·rcases (hN6 i).1 hi with rfl | rfl <;> omega
set_option maxRecDepth 100000 in
theorem termsFrom_any (T : Tm) (s : Value) (w : World) : Calls Tryz.prog 14 #[.agg #[.int .i64 T.kind, .int .i64 T.num, s], .int .i64 11] w fun e w' => Below w.heap.size w w' ∧ ∃ b1 b2, e = .returned (.func (.func 30) #[] #[.pointer (some ⟨b1, 0, none⟩), .pointer (some ⟨b2, 0, none⟩)]) ∧
  VarAt b1 T.kind T.num s w' ∧ w'.heap[b2]? = some (.cells #[.int .i64 11] 3 (0, 0)) := by
 have hmf : ∀ (fn : Fn) (first cap : Array Value) (w : World), (Instr.makeFunc fn first cap).run Tryz.prog w = .ok (.func fn first cap) w := fun _ _ _ _ => rfl
 have HP : Hid (Below w.heap.size w ((w.alloc (.cells #[.int .i64 T.kind, .int .i64 T.num, s] 25)).alloc (.cells #[.int .i64 11] 3)) ∧ VarAt w.heap.size T.kind T.num s ((w.alloc (.cells #[.int .i64 T.kind, .int .i64 T.num, s] 25)).alloc (.cells #[.int .i64 11] 3)) ∧ ((w.alloc (.cells #[.int .i64 T.kind, .int .i64 T.num, s] 25)).alloc (.cells #[.int .i64 11] 3)).heap[w.heap.size + 1]? = some (.cells #[.int .i64 11] 3 (0, 0))) :=
  tuck ⟨below2 _ _ _, (VarAt.new w T.kind T.num s).below (below1 _ _), by have := heap_new (w.alloc (.cells #[.int .i64 T.kind, .int .i64 T.num, s] 25)) (.cells #[.int .i64 11] 3); simpa using this⟩
 go_enter Tryz.func14, Tryz.ntmps14
 go_wp2_with fail
 go_ret
 exact ⟨HP.out.1, _, _, rfl, HP.out.2.1, HP.out.2.2⟩
set_option maxRecDepth 100000 in
set_option maxHeartbeats 8000000 in
theorem traceI_any (t : Tm) (w : World) (v : Value) (h : TmIn w 0 t v) : Calls Tryz.prog 6 #[v] w (TrOwn w (traceL t)) := by
 obtain ⟨s, rfl, hs⟩ := h
 obtain ⟨a, c, rfl⟩ := hs.form
 have HS := tuck hs
 refine (callsIn_wide (n := 9)).1 ?_
 refine callsIn_of_wp_marks Tryz.func6 rfl trivial ?_ rfl
 simp only [Tryz.ntmps6, List.size_toArray, List.length_cons, List.length_nil, Nat.reduceAdd, Nat.reduceSub, Array.replicate_succ, Array.replicate_zero, List.push_toArray, List.append_toArray, List.nil_append, List.cons_append]
 by_cases hv : t.Valid
 ·have HVI : Hid (∀ (W : World) (h : SlIn W 0 t.kids (.slice a t.kids.length c)), Calls Tryz.prog 10 #[.agg #[.int .i64 t.kind, .int .i64 t.num, .slice a t.kids.length c]] W (BoolPost W true)) := tuck fun W h => by
   have h2 := validI_any t W _ ⟨_, rfl, h⟩
   rwa [tr_of hv] at h2
  rw [traceL_yes hv]
  have HTV := tuck hv
  have HVN := tuck (VarAt.new w t.kind t.num (.slice a t.kids.length c))
  clear hv hs
  gi_wp2_with fail
  refine ⟨trivial, (callsIn_wide.2 (HVI.out _ (HS.out.below (below1 _ _)))).mono ?_⟩
  rintro e W1 ⟨rfl, hb1⟩
  have HB1 := tuck (bAfter (below1 w _) hb1)
  obtain ⟨z0, a0, a1, a2, af⟩ := (HVN.out.below hb1).facts
  clear hb1
  gi_wp2_with fail
  have hl0 := heap_new W1 (.cells #[.slice none 0 0] 23)
  refine ⟨trivial, (callsIn_wide.2 (termsFrom_any t (.slice a t.kids.length c) _)).mono ?_⟩
  rintro e W3 ⟨hb3, b1, b2, rfl, hvb, hb2⟩
  obtain ⟨lb, hlb⟩ : ∃ lb, lb = W1.heap.size := ⟨_, rfl⟩
  rw [← hlb] at hl0 ⊢
  have HL3 : Hid (W3.heap[lb]? = some (.cells #[.slice none 0 0] 23 (0, 0))) := tuck ((hb3.block _ (block_of_cells hl0).1).trans hl0)
  have HB3 : Hid (Below w.heap.size w W3) := tuck (bAfter HB1.out (bAfter (below1 _ _) hb3))
  have hwl : w.heap.size ≤ lb := by rw [hlb]; exact HB1.out.size
  have hlb3 : lb < W3.heap.size := (block_of_cells HL3.out).1
  have HVB := tuck hvb
  have HB2 := tuck hb2
  clear hb3 hvb hb2 hl0 hlb z0 a0 a1 a2 af
  gi_wp2_with fail
  refine wpIn_rangeFunc_cells rfl (by omega) (gf := 30) (lb := #[.pointer (some ⟨b1, 0, none⟩), .pointer (some ⟨b2, 0, none⟩)]) rfl trivial (enters_of Tryz.func30 (by kernel_rfl) rfl) (N := (traceN 11 t).length) (enc := fun x : Value × Nat => #[x.1]) (At := TrAt (traceN 11 t) lb) (w0 := W3)
   (terms_in _ (by omega) w W3 HB3.out t HTV.out _ b1 b2 lb HVB.out HB2.out HL3.out hwl HS.out) (Below.refl _ _) (fun _ => rfl)
   (TrI w (traceN 11 t) lb W3.heap.size)
   ?hI ?hIo ?hAo ?h0
   (fun x a' A => ∃ (bt : Nat) (T : Tm) (sa : Option Addr) (sc : Nat), x.1 = .agg #[.int .i64 T.kind, .int .i64 T.num, .slice sa T.kids.length sc] ∧ W3.heap.size ≤ bt ∧ (∀ v, A.cell? ⟨lb, 0, none⟩ = some v → v.ownBlock ≠ some bt) ∧ VarAt bt T.kind T.num (.slice sa T.kids.length sc) A ∧ a' = { tmps := #[.agg #[.int .i64 t.kind, .int .i64 t.num, .slice a t.kids.length c], .pointer (some ⟨w.heap.size, 0, none⟩), .slice none 0 0, .pointer (some ⟨lb, 0, none⟩), .pointer (some ⟨bt, 0, none⟩), .agg #[.int .i64 t.kind, .int .i64 t.num, .slice a t.kids.length c], .bool true, .bool false, .agg #[.int .i64 t.kind, .int .i64 t.num, .slice a t.kids.length c], .func (.func 30) #[] #[.pointer (some ⟨b1, 0, none⟩), .pointer (some ⟨b2, 0, none⟩)], x.1, undef, undef, undef, undef, undef, undef, undef, undef], defers := [] })
   ?hAx ?hassign ?hbody ?hdone
  case hI =>
   rintro k M M' A B ⟨h1, v, F, h2, h3, h4, h7⟩ hM hz hs
   have hb : ∀ i, i < W3.heap.size + 2 → B.heap[i]? = A.heap[i]? := fun i hi => hs.block i (by omega) (fun m => by have := hM i m; omega)
   have hzw := HB3.out.size
   refine ⟨⟨hs.os.trans h1.os, hs.tape.trans h1.tape, hs.output.trans h1.output, Nat.le_trans h1.size hs.size, fun i hi => (hb i (by omega)).trans (h1.block i hi)⟩, v, F, (hb _ (by omega)).trans h2, h3.keep hs.size fun g hg => ?_, fun i hi => ?_, Nat.le_trans h7 hs.size⟩
   ·rcases hg with hg | hg
    ·exact hs.block g (h3.lt g hg).2 (fun m => (h4 g m).1 hg)
    ·exact hs.block g (h3.flt g hg).2.1 (fun m => (h4 g m).2 hg)
   ·by_cases hiA : i < A.heap.size
    ·exact h4 i (hs.grow i hiA hi)
    ·exact ⟨fun e => by have := (h3.lt i e).2; omega, fun e => by have := (h3.flt i e).2.1; omega⟩
  case hIo =>
   rintro k M A o o' ⟨h1, v, F, h2, h3, h4, h7⟩ ho hc
   have hzw := HB3.out.size
   refine ⟨⟨h1.os, h1.tape, h1.output, by simpa [World.putObj] using h1.size, fun i hi => (World.putObj_heap_other (by omega)).trans (h1.block i hi)⟩, v, F, (World.putObj_heap_other (by omega)).trans h2, h3.keep (by simp [World.putObj]) fun g hg => World.putObj_heap_other ?_, h4, by simpa [World.putObj] using h7⟩
   rcases hg with hg | hg
   ·have := (h3.lt g hg).1; omega
   ·have := (h3.flt g hg).1; omega
  case hAo =>
   rintro k x M A o o' hC hM ho hc
   exact hC.putObj ho hc (fun h => by have := hM _ h; omega) (by omega)
  case h0 =>
   rintro A hb
   have hzw := HB3.out.size
   exact ⟨bAfter HB3.out hb, _, [], (hb.block _ hlb3).trans HL3.out, by rw [List.take_zero]; exact RowG.nil _ _, fun i hi => hi.elim, hb.size⟩
  case hAx =>
   rintro x a' A o o' ⟨bt, T, sa, sc, h1, h2, hown, h3, h4⟩ ho hc
   refine ⟨bt, T, sa, sc, h1, h2, (fun v hv => hown v ((World.cell?_of_block (World.putObj_heap_other (show (⟨lb, 0, none⟩ : Addr).block ≠ W3.heap.size + 1 by show lb ≠ _; omega))).symm.trans hv)), ?_, h4⟩
   have hne : bt ≠ W3.heap.size + 1 := by
    rintro rfl
    have h5 : A.heap[W3.heap.size + 1]? = _ := h3
    rw [h5] at ho
    cases ho
    cases hc
   exact (World.putObj_heap_other hne).trans h3
  case hassign =>
   rintro l k ⟨xv, xg⟩ M W K hk ⟨i1, v, F, i2, i3, i4, i7⟩ hA hK hM
   have hA2 := hA
   obtain ⟨T, sa, sc, g1, g2, -⟩ := hA2
   dsimp only at g2
   subst g2
   have hbx := below1 W (.cells #[.int .i64 T.kind, .int .i64 T.num, .slice sa T.kids.length sc] 25)
   have HK := tuck (hK _ (W.alloc (.cells #[.int .i64 T.kind, .int .i64 T.num, .slice sa T.kids.length sc] 25)) (keepsFrom_of_below hbx _) hM ⟨bAfter i1 hbx, v, F, (hbx.block _ (block_of_cells i2).1).trans i2, i3.below hbx, i4, Nat.le_trans i7 hbx.size⟩ (hA.below hbx) ⟨W.heap.size, T, sa, sc, rfl, i7, (fun v' hv' e => by
    have hc := ((hbx.cell (p := ⟨lb, 0, none⟩) (block_of_cells i2).1).symm.trans hv').symm.trans (((block_of_cells i2).2.1 0))
    simp only [List.size_toArray, List.length_cons, List.length_nil, Nat.lt_add_one, List.getElem?_toArray, List.getElem?_cons_zero, Option.some.injEq] at hc
    have := (i3.lt _ (by rw [← hc]; exact e)).2
    omega), VarAt.new W T.kind T.num (.slice sa T.kids.length sc), rfl⟩)
   clear hK hA i1 i2 i3 i4 hbx
   gi_wp2
   exact HK.out
  case hbody =>
   rintro l k ⟨xv, xg⟩ M a' W hk hM hz hI hA ⟨bt, T0, sa, sc, e1, ebt, hob, hV, rfl⟩
   obtain ⟨i1, v, F, i2, i3, i4, i7⟩ := hI
   have hA2 := hA
   obtain ⟨T, ta, tc, g1, g2, -, g4, -, -, g7⟩ := hA2
   dsimp only at g2 e1
   subst g2
   obtain ⟨ek, en, es⟩ : T.kind = T0.kind ∧ T.num = T0.num ∧ Value.slice ta T.kids.length tc = Value.slice sa T0.kids.length sc := by
    simp only [Value.agg.injEq, Array.mk.injEq, List.cons.injEq, and_true, Value.int.injEq, true_and] at e1
    exact ⟨e1.1, e1.2.1, e1.2.2⟩
   rw [← ek, ← en, ← es] at hV
   have hlt : ((traceN 11 t).take k).length = k := by rw [List.length_take]; omega
   obtain ⟨va, vc, rfl⟩ := i3.form' hlt
   have hTv : T.Valid := traceN_all 11 t HTV.out T (List.mem_of_getElem? g1)
   have hk12 : k ≤ 11 := by have := (traceN_len 11 t).2; omega
   have HCL : Hid (∀ W2, Below W.heap.size W W2 → Calls Tryz.prog 15 #[.agg #[.int .i64 T.kind, .int .i64 T.num, .slice ta T.kids.length tc]] W2 (fun e w' => Below W2.heap.size W2 w' ∧ ∃ (sv : Value) (F2 : List Nat), e = .returned (.agg #[.int .i64 T.kind, .int .i64 T.num, sv]) ∧ SlOwn w' T.kids sv F2 ∧ F2.Nodup ∧ ∀ g ∈ F2, W2.heap.size ≤ g ∧ g < w'.heap.size)) := tuck fun W2 h => by
    have h1 := cloneI_any T.kids T.kind T.num W2 _ (by have := (valid_bounds hTv).1; omega) (g4.sl.below h)
    rw [Tm.eta] at h1
    refine h1.mono ?_
    rintro e w' ⟨hb, v, rfl, s, F, rfl, hs, hnd, hF⟩
    exact ⟨hb, s, F, rfl, hs, hnd, hF⟩
   obtain ⟨zl, cl, fl⟩ := block_of_cells i2
   have hcl : W.cell? ⟨lb, 0, none⟩ = some (.slice va k vc) := (cl 0).trans (by simp)
   obtain ⟨zt, t0, t1, t2, tf⟩ := hV.facts
   have HLT := tuck hlt
   have HRG := tuck i3
   have HVL := tuck i2
   have HVT := tuck hV
   have I1 := tuck i1
   have I4 := tuck i4
   have HA := tuck hA
   have HLK := tuck g1
   have HOB := tuck (hob _ hcl)
   have HOL : Hid ((Value.slice va k vc).ownBlock ≠ some lb) := tuck fun e => by have := (i3.lt lb e).1; omega
   have HLB := tuck hwl
   have hq4 : k + 1 ≤ maxLen := by unfold maxLen; omega
   have hqb : (k + 1) * 40 ≤ 140737488355328 := by omega
   have hki : (0 : Int) ≤ (k : Int) := by omega
   have hki2 : (k : Int) < (k : Int) + 1 := by omega
   obtain ⟨i0, hi0, hz0, hz1, hz2'⟩ := info_parts info_termG
   have HI0 := tuck hi0
   have HI1 := tuck hz0
   have HI2 := tuck hz1
   have HI3 := tuck hz2'
   have HS0 : Hid ((fun w' : World => (lb < w'.heap.size ∧ w'.cell? ⟨lb, 0, none⟩ = some (.slice va k vc)) ∧ bt < w'.heap.size ∧ w'.cell? ⟨bt, 0, none⟩ = some (.int .i64 T.kind) ∧ w'.cell? ⟨bt, 1, none⟩ = some (.int .i64 T.num) ∧ w'.cell? ⟨bt, 2, none⟩ = some (.slice ta T.kids.length tc)) W.drew) := tuck ⟨⟨zl, hcl⟩, zt, t0, t1, t2⟩
   have HSK : Hid (∀ W2, Below W.heap.size W W2 → (fun w' : World => (lb < w'.heap.size ∧ w'.cell? ⟨lb, 0, none⟩ = some (.slice va k vc)) ∧ bt < w'.heap.size ∧ w'.cell? ⟨bt, 0, none⟩ = some (.int .i64 T.kind) ∧ w'.cell? ⟨bt, 1, none⟩ = some (.int .i64 T.num) ∧ w'.cell? ⟨bt, 2, none⟩ = some (.slice ta T.kids.length tc)) W2) := tuck fun W2 h => ⟨⟨Nat.lt_of_lt_of_le zl h.size, (h.cell (p := ⟨lb, 0, none⟩) zl).trans hcl⟩, Nat.lt_of_lt_of_le zt h.size, (h.cell (p := ⟨bt, 0, none⟩) zt).trans t0, (h.cell (p := ⟨bt, 1, none⟩) zt).trans t1, (h.cell (p := ⟨bt, 2, none⟩) zt).trans t2⟩
   clear i1 i2 i3 i4 hA g1 g4 g7 hV hob ek en es e1 hlt hi0 hz0 hz1 hz2' zl cl fl hcl zt t0 t1 t2 tf
   gi_wp2_with fail
   refine AnyTwo.beginN (fun w' : World => (lb < w'.heap.size ∧ w'.cell? ⟨lb, 0, none⟩ = some (.slice va k vc)) ∧ bt < w'.heap.size ∧ w'.cell? ⟨bt, 0, none⟩ = some (.int .i64 T.kind) ∧ w'.cell? ⟨bt, 1, none⟩ = some (.int .i64 T.num) ∧ w'.cell? ⟨bt, 2, none⟩ = some (.slice ta T.kids.length tc)) (fun w' : World => bt < w'.heap.size ∧ w'.cell? ⟨bt, 0, none⟩ = some (.int .i64 T.kind) ∧ w'.cell? ⟨bt, 1, none⟩ = some (.int .i64 T.num) ∧ w'.cell? ⟨bt, 2, none⟩ = some (.slice ta T.kids.length tc)) 5 (by kernel_rfl) (by kernel_rfl) ?_
   have HT12 : ∀ w' : World, (fun w' : World => (lb < w'.heap.size ∧ w'.cell? ⟨lb, 0, none⟩ = some (.slice va k vc)) ∧ bt < w'.heap.size ∧ w'.cell? ⟨bt, 0, none⟩ = some (.int .i64 T.kind) ∧ w'.cell? ⟨bt, 1, none⟩ = some (.int .i64 T.num) ∧ w'.cell? ⟨bt, 2, none⟩ = some (.slice ta T.kids.length tc)) w' → (fun w' : World => bt < w'.heap.size ∧ w'.cell? ⟨bt, 0, none⟩ = some (.int .i64 T.kind) ∧ w'.cell? ⟨bt, 1, none⟩ = some (.int .i64 T.num) ∧ w'.cell? ⟨bt, 2, none⟩ = some (.slice ta T.kids.length tc)) w' := fun w' h => h.2
   have hS1 : (fun w' : World => (lb < w'.heap.size ∧ w'.cell? ⟨lb, 0, none⟩ = some (.slice va k vc)) ∧ bt < w'.heap.size ∧ w'.cell? ⟨bt, 0, none⟩ = some (.int .i64 T.kind) ∧ w'.cell? ⟨bt, 1, none⟩ = some (.int .i64 T.num) ∧ w'.cell? ⟨bt, 2, none⟩ = some (.slice ta T.kids.length tc)) W.drew := HS0.out
   refine AnyTwo.take (i := 0) (oi := ⟨some 11, _, _, _, _, _⟩) (v := ?va0) rfl (by kernel_rfl) (by kernel_rfl) (by decide +kernel) (by kernel_rfl) (by rfl) (by kernel_rfl) (fun _ _ _ h => nomatch h.1) (Or.inl ⟨by rfl, ?ya0⟩) hS1 ?ra0
   case ya0 => (intro w hSw; (try dsimp only at hSw); go_simp; try (with_reducible rfl))
   try simp only [pts]
   refine AnyTwo.takeAny HT12 (i := 1) (oi := ⟨some 12, _, _, _, _, _⟩) (v := ?va1) rfl (by kernel_rfl) (by kernel_rfl) (by decide +kernel) (by rfl) (fun _ _ _ h => nomatch h.1) (Or.inl ⟨by rfl, ?ya1⟩) (ph_one (by kernel_rfl) hS1) ?ra1
   case ya1 => (intro w hSw; (try dsimp only at hSw); go_simp; try (with_reducible rfl))
   try simp only [pts]
   refine AnyTwo.takeAny HT12 (i := 3) (oi := ⟨some 14, _, _, _, _, _⟩) (v := ?va3) rfl (by kernel_rfl) (by kernel_rfl) (by decide +kernel) (by rfl) (fun _ _ _ h => nomatch h.1) (Or.inl ⟨by rfl, ?ya3⟩) (ph_one (by kernel_rfl) hS1) ?ra3
   case ya3 => (intro w hSw; (try dsimp only at hSw); go_simp; try (with_reducible rfl))
   try simp only [pts]
   refine AnyTwo.fork (i := 2) (o := ⟨some 13, _, _, _, _, _⟩) (j := 4) (o' := ⟨some 15, _, _, _, _, _⟩) (by kernel_rfl) rfl rfl (fun K hK => ?_) (fun K hK => ?_)
   ·skip
    go_simp
    refine (HCL.out W.drew (Below.refl _ _).drew).mono ?_
    rintro e w2 ⟨hb2, sv, F2, rfl, hs2, hnd2, hF2⟩
    obtain ⟨ua, uc, rfl⟩ := hs2.form
    have HBN : Hid (Below W.heap.size W w2) := tuck (bAfter (Below.refl _ _).drew hb2)
    have hS1' : (fun w' : World => (lb < w'.heap.size ∧ w'.cell? ⟨lb, 0, none⟩ = some (.slice va k vc)) ∧ bt < w'.heap.size ∧ w'.cell? ⟨bt, 0, none⟩ = some (.int .i64 T.kind) ∧ w'.cell? ⟨bt, 1, none⟩ = some (.int .i64 T.num) ∧ w'.cell? ⟨bt, 2, none⟩ = some (.slice ta T.kids.length tc)) _ := HSK.out _ HBN.out
    refine hK.out _ _ (ph_one (by kernel_rfl) hS1') ?_
    clear hK K hS1
    have hS1 := hS1'
    clear hS1'
    try simp only [pts]
    refine AnyTwo.step (i := 4) (o := ⟨some 15, _, _, _, _, _⟩) (by kernel_rfl) rfl (fun K hK => ?_)
    go_simp
    have hS1' : (fun w' : World => (lb < w'.heap.size ∧ w'.cell? ⟨lb, 0, none⟩ = some (.slice va k vc)) ∧ bt < w'.heap.size ∧ w'.cell? ⟨bt, 0, none⟩ = some (.int .i64 T.kind) ∧ w'.cell? ⟨bt, 1, none⟩ = some (.int .i64 T.num) ∧ w'.cell? ⟨bt, 2, none⟩ = some (.slice ta T.kids.length tc)) _ := HSK.out _ (bAfter HBN.out (below1 w2 (.cells #[.int .i64 0, .int .i64 0, .slice none 0 0] 25)))
    refine hK.out _ _ (ph_one (by kernel_rfl) hS1') ?_
    clear hK K hS1
    have hS1 := hS1'
    clear hS1'
    try simp only [pts]
    have HBB : Hid (Below W.heap.size W (w2.alloc (.cells #[.int .i64 0, .int .i64 0, .slice none 0 0] 25))) := tuck (bAfter HBN.out (below1 w2 (.cells #[.int .i64 0, .int .i64 0, .slice none 0 0] 25)))
    have HSO : Hid (SlOwn (w2.alloc (.cells #[.int .i64 0, .int .i64 0, .slice none 0 0] 25)) T.kids (.slice ua T.kids.length uc) F2) := tuck (hs2.keep fun g hg => SameAt.of_block ((below1 w2 (.cells #[.int .i64 0, .int .i64 0, .slice none 0 0] 25)).block g (hF2 g hg).2))
    have HFO : Hid (∀ g ∈ F2, W.heap.size ≤ g ∧ g < (w2.alloc (.cells #[.int .i64 0, .int .i64 0, .slice none 0 0] 25)).heap.size) := tuck fun g hg => ⟨(hF2 g hg).1, Nat.lt_of_lt_of_le (hF2 g hg).2 (below1 w2 (.cells #[.int .i64 0, .int .i64 0, .slice none 0 0] 25)).size⟩
    have HZB := tuck (heap_new w2 (.cells #[.int .i64 0, .int .i64 0, .slice none 0 0] 25))
    clear hs2 hF2 hb2 HBN
    obtain ⟨Wb, hWb⟩ : ∃ Wb, Wb = w2.alloc (.cells #[.int .i64 0, .int .i64 0, .slice none 0 0] 25) := ⟨_, rfl⟩
    rw [← hWb] at HBB HSO HFO HZB hS1 ⊢
    obtain ⟨zb, hzb⟩ : ∃ zb, zb = w2.heap.size := ⟨_, rfl⟩
    rw [← hzb] at HZB ⊢
    clear hWb hzb
    obtain ⟨xs, hox, -⟩ := (HRG.out.below HBB.out).grow HLT.out
    have HOX := tuck hox
    clear hox
    refine AnyTwo.step (i := 5) (o := ⟨some 16, _, _, _, _, _⟩) (by kernel_rfl) rfl (fun K hK => ?_)
    refine step_append_lies _ (by rfl) _ _ _ (by rfl) (W3.heap.size + 2) 25 i0 _ 3 40 Tryz.underlying23 HI0.out HI1.out HI2.out HI3.out rfl (by omega) _ _ _ (by rfl) HOX.out ⟨zb, 0, none⟩ 1 1 [.int .i64 0, .int .i64 0, .slice none 0 0] (by rfl) (by rfl) (World.news_of_block (cs := #[.int .i64 0, .int .i64 0, .slice none 0 0]) (t := 25) (fr := (0, 0)) HZB.out) (by simp [Value.oneCell']) (by omega) hq4 hqb (by have := HBB.out.size; omega) _ rfl ?_
    intro gg gcap w5 hown5 hgrow hat hlt5
    have hE : (fun w' : World => bt < w'.heap.size ∧ w'.cell? ⟨bt, 0, none⟩ = some (.int .i64 T.kind) ∧ w'.cell? ⟨bt, 1, none⟩ = some (.int .i64 T.num) ∧ w'.cell? ⟨bt, 2, none⟩ = some (.slice ta T.kids.length tc)) w5 := by
     have h1 := ((HVT.out.below HBB.out).grown hgrow (fun e => HOB.out (by rw [← e]))).facts
     exact ⟨h1.1, h1.2.1, h1.2.2.1, h1.2.2.2.1⟩
    refine hK.out _ _ (ph_end (by kernel_rfl) hE) ?_
    clear hK K hS1
    try simp only [pts]
    refine AnyTwo.takeAny HT12 (i := 6) (oi := ⟨some 17, _, _, _, _, _⟩) (v := ?vb6) rfl (by kernel_rfl) (by kernel_rfl) (by decide +kernel) (by rfl) (fun _ _ _ h => nomatch h.1) (Or.inl ⟨by rfl, ?yb6⟩) (ph_end (by kernel_rfl) hE) ?rb6
    case yb6 => (intro w hSw; (try dsimp only at hSw); go_simp; try (with_reducible rfl))
    try simp only [pts]
    obtain ⟨cur, hgg, hcz⟩ : ∃ cur, w5.heap[gg]? = some (.cells cur 25 (0, 0)) ∧ (k + 1) * 3 ≤ cur.size := by
     rcases hown5.2 with ⟨e, -⟩ | ⟨g', cap', cur, e, -, h1, h2, -, h3, -⟩
     ·cases e
     ·simp only [Value.slice.injEq, Option.some.injEq, Addr.mk.injEq, and_true, true_and] at e
      obtain ⟨rfl, rfl⟩ := e
      exact ⟨cur, h1, by rw [h3]; exact Nat.mul_le_mul_right 3 h2⟩
    obtain ⟨zg, cg, fg⟩ := block_of_cells hgg
    obtain ⟨u0, r0⟩ : ∃ u, w5.cell? ⟨gg, k * 3, none⟩ = some u := ⟨_, (cg _).trans (Array.getElem?_eq_getElem (by omega))⟩
    obtain ⟨u1, r1⟩ : ∃ u, w5.cell? ⟨gg, k * 3 + 1, none⟩ = some u := ⟨_, (cg _).trans (Array.getElem?_eq_getElem (by omega))⟩
    obtain ⟨u2, r2⟩ : ∃ u, w5.cell? ⟨gg, k * 3 + 2, none⟩ = some u := ⟨_, (cg _).trans (Array.getElem?_eq_getElem (by omega))⟩
    have hl5 : w5.heap[lb]? = some (.cells #[.slice va k vc] 23 (0, 0)) := (hgrow.block lb (by have := HBB.out.size; omega) (fun e => HOL.out e.symm)).trans ((HBB.out.block lb (by omega)).trans HVL.out)
    obtain ⟨zl5, cl5, fl5⟩ := block_of_cells hl5
    have l0 : w5.cell? ⟨lb, 0, none⟩ = some (.slice va k vc) := (cl5 0).trans (by simp)
    have hgl : gg ≠ lb := by
     have := HLB.out
     rcases hat with h | h
     ·intro e
      exact HOL.out (by rw [h, e])
     ·have := HBB.out.size
      omega
    have hgl' : lb ≠ gg := fun e => hgl e.symm
    have HFIN := tuck (tr_round hwl (by omega : lb < W3.heap.size) hz HLK.out I1.out HVL.out HRG.out I4.out HA.out HBB.out HOX.out HSO.out hnd2 HFO.out hown5 hgrow hat hlt5 _ rfl)
    have HCM := tuck (fun x y z u => show (((w5.setCell ⟨lb, 0, none⟩ u).setCell ⟨gg, k * 3, none⟩ x).setCell ⟨gg, k * 3 + 1, none⟩ y).setCell ⟨gg, k * 3 + 2, none⟩ z = (((w5.setCell ⟨gg, k * 3, none⟩ x).setCell ⟨gg, k * 3 + 1, none⟩ y).setCell ⟨gg, k * 3 + 2, none⟩ z).setCell ⟨lb, 0, none⟩ u by
     rw [setCell_comm w5 (p := ⟨lb, 0, none⟩) (q := ⟨gg, k * 3, none⟩) hgl', setCell_comm _ (p := ⟨lb, 0, none⟩) (q := ⟨gg, k * 3 + 1, none⟩) hgl', setCell_comm _ (p := ⟨lb, 0, none⟩) (q := ⟨gg, k * 3 + 2, none⟩) hgl'])
    have HAT := tuck hat
    clear hgg hcz cg cl5 hl5 hown5 hgrow hat
    have hbg : gg ≠ bt := by
     have := HVT.out.facts.1
     rcases HAT.out with h | h
     ·intro e
      exact HOB.out (by rw [h, e])
     ·have := HBB.out.size
      omega
    have hbl : lb ≠ bt := by
     rintro rfl
     have h1 := HVL.out
     have h2 : W.heap[lb]? = _ := HVT.out
     rw [h1] at h2
     simp at h2
    have HKE : Hid (∀ (q : Addr) (u : Value) (W' : World), q.block ≠ bt → (fun w' : World => bt < w'.heap.size ∧ w'.cell? ⟨bt, 0, none⟩ = some (.int .i64 T.kind) ∧ w'.cell? ⟨bt, 1, none⟩ = some (.int .i64 T.num) ∧ w'.cell? ⟨bt, 2, none⟩ = some (.slice ta T.kids.length tc)) W' → (fun w' : World => bt < w'.heap.size ∧ w'.cell? ⟨bt, 0, none⟩ = some (.int .i64 T.kind) ∧ w'.cell? ⟨bt, 1, none⟩ = some (.int .i64 T.num) ∧ w'.cell? ⟨bt, 2, none⟩ = some (.slice ta T.kids.length tc)) (W'.setCell q u)) := tuck fun q u W' hq h => ⟨by simpa [World.setCell] using h.1, (World.cell?_setCell_other W' q ⟨bt, 0, none⟩ u (fun e => hq (congrArg Addr.block e))).trans h.2.1, (World.cell?_setCell_other W' q ⟨bt, 1, none⟩ u (fun e => hq (congrArg Addr.block e))).trans h.2.2.1, (World.cell?_setCell_other W' q ⟨bt, 2, none⟩ u (fun e => hq (congrArg Addr.block e))).trans h.2.2.2⟩
    have hE3 : (fun w' : World => bt < w'.heap.size ∧ w'.cell? ⟨bt, 0, none⟩ = some (.int .i64 T.kind) ∧ w'.cell? ⟨bt, 1, none⟩ = some (.int .i64 T.num) ∧ w'.cell? ⟨bt, 2, none⟩ = some (.slice ta T.kids.length tc)) (((w5.setCell ⟨gg, k * 3, none⟩ (.int .i64 T.kind)).setCell ⟨gg, k * 3 + 1, none⟩ (.int .i64 T.num)).setCell ⟨gg, k * 3 + 2, none⟩ (.slice ua T.kids.length uc)) := HKE.out _ _ _ hbg (HKE.out _ _ _ hbg (HKE.out _ _ _ hbg hE))
    have HE3 := tuck hE3
    have HE4 := tuck (HKE.out ⟨lb, 0, none⟩ (.slice (some ⟨gg, 0, none⟩) (k + 1) gcap) _ hbl hE3)
    have HE1 := tuck (HKE.out ⟨lb, 0, none⟩ (.slice (some ⟨gg, 0, none⟩) (k + 1) gcap) _ hbl hE)
    have HE2 := tuck (HKE.out ⟨gg, k * 3 + 2, none⟩ (.slice ua T.kids.length uc) _ hbg (HKE.out ⟨gg, k * 3 + 1, none⟩ (.int .i64 T.num) _ hbg (HKE.out ⟨gg, k * 3, none⟩ (.int .i64 T.kind) _ hbg HE1.out)))
    have HL3 : Hid ((((w5.setCell ⟨gg, k * 3, none⟩ (.int .i64 T.kind)).setCell ⟨gg, k * 3 + 1, none⟩ (.int .i64 T.num)).setCell ⟨gg, k * 3 + 2, none⟩ (.slice ua T.kids.length uc)).cell? ⟨lb, 0, none⟩ = some (.slice va k vc)) := tuck ((World.cell?_setCell_other _ ⟨gg, k * 3 + 2, none⟩ ⟨lb, 0, none⟩ _ (fun e => hgl (congrArg Addr.block e))).trans ((World.cell?_setCell_other _ ⟨gg, k * 3 + 1, none⟩ ⟨lb, 0, none⟩ _ (fun e => hgl (congrArg Addr.block e))).trans ((World.cell?_setCell_other _ ⟨gg, k * 3, none⟩ ⟨lb, 0, none⟩ _ (fun e => hgl (congrArg Addr.block e))).trans l0)))
    have HR0 := tuck ((World.cell?_setCell_other w5 ⟨lb, 0, none⟩ ⟨gg, k * 3, none⟩ (.slice (some ⟨gg, 0, none⟩) (k + 1) gcap) (fun e => hgl' (congrArg Addr.block e))).trans r0)
    have HR1 := tuck ((World.cell?_setCell_other w5 ⟨lb, 0, none⟩ ⟨gg, k * 3 + 1, none⟩ (.slice (some ⟨gg, 0, none⟩) (k + 1) gcap) (fun e => hgl' (congrArg Addr.block e))).trans r1)
    have HR2 := tuck ((World.cell?_setCell_other w5 ⟨lb, 0, none⟩ ⟨gg, k * 3 + 2, none⟩ (.slice (some ⟨gg, 0, none⟩) (k + 1) gcap) (fun e => hgl' (congrArg Addr.block e))).trans r2)
    clear hE hE3
    refine AnyTwo.fork (i := 7) (o := ⟨none, _, _, _, _, _⟩) (j := 8) (o' := ⟨none, _, _, _, _, _⟩) (by kernel_rfl) rfl rfl (fun K hK => ?_) (fun K hK => ?_)
    ·skip
     go_simp
     refine hK.out _ _ (ph_end (by kernel_rfl) HE3.out) ?_
     clear hK K
     have l3 := HL3.out
     have lf : ∀ i, (((w5.setCell ⟨gg, k * 3, none⟩ (.int .i64 T.kind)).setCell ⟨gg, k * 3 + 1, none⟩ (.int .i64 T.num)).setCell ⟨gg, k * 3 + 2, none⟩ (.slice ua T.kids.length uc)).frozen? ⟨lb, i, none⟩ = false := fun i => by simp [fl5]
     try simp only [pts]
     refine AnyTwo.step (i := 8) (o := ⟨none, _, _, _, _, _⟩) (by kernel_rfl) rfl (fun K hK => ?_)
     go_simp
     refine hK.out _ _ (ph_end (by kernel_rfl) HE4.out) ?_
     clear hK K
     try simp only [pts]
     refine AnyTwo.done (by kernel_rfl) ⟨rfl, ?_⟩ _
     exact ⟨rfl, HFIN.out.1, HFIN.out.2.1, HFIN.out.2.2⟩
    ·skip
     go_simp
     refine hK.out _ _ (ph_end (by kernel_rfl) HE1.out) ?_
     clear hK K
     have s0 := HR0.out
     have s1 := HR1.out
     have s2 := HR2.out
     have sf : ∀ i, (w5.setCell ⟨lb, 0, none⟩ (.slice (some ⟨gg, 0, none⟩) (k + 1) gcap)).frozen? ⟨gg, i, none⟩ = false := fun i => by simp [fg]
     try simp only [pts]
     refine AnyTwo.step (i := 7) (o := ⟨none, _, _, _, _, _⟩) (by kernel_rfl) rfl (fun K hK => ?_)
     go_simp
     refine hK.out _ _ (ph_end (by kernel_rfl) HE2.out) ?_
     clear hK K
     try simp only [pts]
     refine AnyTwo.done (by kernel_rfl) ⟨rfl, ?_⟩ _
     rw [HCM.out]
     exact ⟨rfl, HFIN.out.1, HFIN.out.2.1, HFIN.out.2.2⟩
   ·skip
    go_simp
    have hS1' : (fun w' : World => (lb < w'.heap.size ∧ w'.cell? ⟨lb, 0, none⟩ = some (.slice va k vc)) ∧ bt < w'.heap.size ∧ w'.cell? ⟨bt, 0, none⟩ = some (.int .i64 T.kind) ∧ w'.cell? ⟨bt, 1, none⟩ = some (.int .i64 T.num) ∧ w'.cell? ⟨bt, 2, none⟩ = some (.slice ta T.kids.length tc)) _ := HSK.out _ (below1 W (.cells #[.int .i64 0, .int .i64 0, .slice none 0 0] 25)).drew
    refine hK.out _ _ (ph_one (by kernel_rfl) hS1') ?_
    clear hK K hS1
    have hS1 := hS1'
    clear hS1'
    try simp only [pts]
    refine AnyTwo.step (i := 2) (o := ⟨some 13, _, _, _, _, _⟩) (by kernel_rfl) rfl (fun K hK => ?_)
    go_simp
    refine (HCL.out _ (below1 W (.cells #[.int .i64 0, .int .i64 0, .slice none 0 0] 25)).drew).mono ?_
    rintro e w2 ⟨hb2, sv, F2, rfl, hs2, hnd2, hF2⟩
    obtain ⟨ua, uc, rfl⟩ := hs2.form
    have HBB : Hid (Below W.heap.size W w2) := tuck (bAfter (below1 W (.cells #[.int .i64 0, .int .i64 0, .slice none 0 0] 25)).drew hb2)
    have hS1' : (fun w' : World => (lb < w'.heap.size ∧ w'.cell? ⟨lb, 0, none⟩ = some (.slice va k vc)) ∧ bt < w'.heap.size ∧ w'.cell? ⟨bt, 0, none⟩ = some (.int .i64 T.kind) ∧ w'.cell? ⟨bt, 1, none⟩ = some (.int .i64 T.num) ∧ w'.cell? ⟨bt, 2, none⟩ = some (.slice ta T.kids.length tc)) _ := HSK.out _ HBB.out
    refine hK.out _ _ (ph_one (by kernel_rfl) hS1') ?_
    clear hK K hS1
    have hS1 := hS1'
    clear hS1'
    try simp only [pts]
    have HSO := tuck hs2
    have HFO : Hid (∀ g ∈ F2, W.heap.size ≤ g ∧ g < w2.heap.size) := tuck fun g hg => ⟨Nat.le_trans (below1 W (.cells #[.int .i64 0, .int .i64 0, .slice none 0 0] 25)).drew.size (hF2 g hg).1, (hF2 g hg).2⟩
    have HZB : Hid (w2.heap[W.heap.size]? = some (.cells #[.int .i64 0, .int .i64 0, .slice none 0 0] 25 (0, 0))) := tuck ((hb2.block _ (by simp [World.drew])).trans (heap_new W (.cells #[.int .i64 0, .int .i64 0, .slice none 0 0] 25)))
    clear hs2 hF2 hb2
    obtain ⟨Wb, hWb⟩ : ∃ Wb, Wb = w2 := ⟨_, rfl⟩
    rw [← hWb] at HBB HSO HFO HZB hS1 ⊢
    obtain ⟨zb, hzb⟩ : ∃ zb, zb = W.heap.size := ⟨_, rfl⟩
    rw [← hzb] at HZB ⊢
    clear hWb hzb
    obtain ⟨xs, hox, -⟩ := (HRG.out.below HBB.out).grow HLT.out
    have HOX := tuck hox
    clear hox
    refine AnyTwo.step (i := 5) (o := ⟨some 16, _, _, _, _, _⟩) (by kernel_rfl) rfl (fun K hK => ?_)
    refine step_append_lies _ (by rfl) _ _ _ (by rfl) (W3.heap.size + 2) 25 i0 _ 3 40 Tryz.underlying23 HI0.out HI1.out HI2.out HI3.out rfl (by omega) _ _ _ (by rfl) HOX.out ⟨zb, 0, none⟩ 1 1 [.int .i64 0, .int .i64 0, .slice none 0 0] (by rfl) (by rfl) (World.news_of_block (cs := #[.int .i64 0, .int .i64 0, .slice none 0 0]) (t := 25) (fr := (0, 0)) HZB.out) (by simp [Value.oneCell']) (by omega) hq4 hqb (by have := HBB.out.size; omega) _ rfl ?_
    intro gg gcap w5 hown5 hgrow hat hlt5
    have hE : (fun w' : World => bt < w'.heap.size ∧ w'.cell? ⟨bt, 0, none⟩ = some (.int .i64 T.kind) ∧ w'.cell? ⟨bt, 1, none⟩ = some (.int .i64 T.num) ∧ w'.cell? ⟨bt, 2, none⟩ = some (.slice ta T.kids.length tc)) w5 := by
     have h1 := ((HVT.out.below HBB.out).grown hgrow (fun e => HOB.out (by rw [← e]))).facts
     exact ⟨h1.1, h1.2.1, h1.2.2.1, h1.2.2.2.1⟩
    refine hK.out _ _ (ph_end (by kernel_rfl) hE) ?_
    clear hK K hS1
    try simp only [pts]
    refine AnyTwo.takeAny HT12 (i := 6) (oi := ⟨some 17, _, _, _, _, _⟩) (v := ?vc6) rfl (by kernel_rfl) (by kernel_rfl) (by decide +kernel) (by rfl) (fun _ _ _ h => nomatch h.1) (Or.inl ⟨by rfl, ?yc6⟩) (ph_end (by kernel_rfl) hE) ?rc6
    case yc6 => (intro w hSw; (try dsimp only at hSw); go_simp; try (with_reducible rfl))
    try simp only [pts]
    obtain ⟨cur, hgg, hcz⟩ : ∃ cur, w5.heap[gg]? = some (.cells cur 25 (0, 0)) ∧ (k + 1) * 3 ≤ cur.size := by
     rcases hown5.2 with ⟨e, -⟩ | ⟨g', cap', cur, e, -, h1, h2, -, h3, -⟩
     ·cases e
     ·simp only [Value.slice.injEq, Option.some.injEq, Addr.mk.injEq, and_true, true_and] at e
      obtain ⟨rfl, rfl⟩ := e
      exact ⟨cur, h1, by rw [h3]; exact Nat.mul_le_mul_right 3 h2⟩
    obtain ⟨zg, cg, fg⟩ := block_of_cells hgg
    obtain ⟨u0, r0⟩ : ∃ u, w5.cell? ⟨gg, k * 3, none⟩ = some u := ⟨_, (cg _).trans (Array.getElem?_eq_getElem (by omega))⟩
    obtain ⟨u1, r1⟩ : ∃ u, w5.cell? ⟨gg, k * 3 + 1, none⟩ = some u := ⟨_, (cg _).trans (Array.getElem?_eq_getElem (by omega))⟩
    obtain ⟨u2, r2⟩ : ∃ u, w5.cell? ⟨gg, k * 3 + 2, none⟩ = some u := ⟨_, (cg _).trans (Array.getElem?_eq_getElem (by omega))⟩
    have hl5 : w5.heap[lb]? = some (.cells #[.slice va k vc] 23 (0, 0)) := (hgrow.block lb (by have := HBB.out.size; omega) (fun e => HOL.out e.symm)).trans ((HBB.out.block lb (by omega)).trans HVL.out)
    obtain ⟨zl5, cl5, fl5⟩ := block_of_cells hl5
    have l0 : w5.cell? ⟨lb, 0, none⟩ = some (.slice va k vc) := (cl5 0).trans (by simp)
    have hgl : gg ≠ lb := by
     have := HLB.out
     rcases hat with h | h
     ·intro e
      exact HOL.out (by rw [h, e])
     ·have := HBB.out.size
      omega
    have hgl' : lb ≠ gg := fun e => hgl e.symm
    have HFIN := tuck (tr_round hwl (by omega : lb < W3.heap.size) hz HLK.out I1.out HVL.out HRG.out I4.out HA.out HBB.out HOX.out HSO.out hnd2 HFO.out hown5 hgrow hat hlt5 _ rfl)
    have HCM := tuck (fun x y z u => show (((w5.setCell ⟨lb, 0, none⟩ u).setCell ⟨gg, k * 3, none⟩ x).setCell ⟨gg, k * 3 + 1, none⟩ y).setCell ⟨gg, k * 3 + 2, none⟩ z = (((w5.setCell ⟨gg, k * 3, none⟩ x).setCell ⟨gg, k * 3 + 1, none⟩ y).setCell ⟨gg, k * 3 + 2, none⟩ z).setCell ⟨lb, 0, none⟩ u by
     rw [setCell_comm w5 (p := ⟨lb, 0, none⟩) (q := ⟨gg, k * 3, none⟩) hgl', setCell_comm _ (p := ⟨lb, 0, none⟩) (q := ⟨gg, k * 3 + 1, none⟩) hgl', setCell_comm _ (p := ⟨lb, 0, none⟩) (q := ⟨gg, k * 3 + 2, none⟩) hgl'])
    have HAT := tuck hat
    clear hgg hcz cg cl5 hl5 hown5 hgrow hat
    have hbg : gg ≠ bt := by
     have := HVT.out.facts.1
     rcases HAT.out with h | h
     ·intro e
      exact HOB.out (by rw [h, e])
     ·have := HBB.out.size
      omega
    have hbl : lb ≠ bt := by
     rintro rfl
     have h1 := HVL.out
     have h2 : W.heap[lb]? = _ := HVT.out
     rw [h1] at h2
     simp at h2
    have HKE : Hid (∀ (q : Addr) (u : Value) (W' : World), q.block ≠ bt → (fun w' : World => bt < w'.heap.size ∧ w'.cell? ⟨bt, 0, none⟩ = some (.int .i64 T.kind) ∧ w'.cell? ⟨bt, 1, none⟩ = some (.int .i64 T.num) ∧ w'.cell? ⟨bt, 2, none⟩ = some (.slice ta T.kids.length tc)) W' → (fun w' : World => bt < w'.heap.size ∧ w'.cell? ⟨bt, 0, none⟩ = some (.int .i64 T.kind) ∧ w'.cell? ⟨bt, 1, none⟩ = some (.int .i64 T.num) ∧ w'.cell? ⟨bt, 2, none⟩ = some (.slice ta T.kids.length tc)) (W'.setCell q u)) := tuck fun q u W' hq h => ⟨by simpa [World.setCell] using h.1, (World.cell?_setCell_other W' q ⟨bt, 0, none⟩ u (fun e => hq (congrArg Addr.block e))).trans h.2.1, (World.cell?_setCell_other W' q ⟨bt, 1, none⟩ u (fun e => hq (congrArg Addr.block e))).trans h.2.2.1, (World.cell?_setCell_other W' q ⟨bt, 2, none⟩ u (fun e => hq (congrArg Addr.block e))).trans h.2.2.2⟩
    have hE3 : (fun w' : World => bt < w'.heap.size ∧ w'.cell? ⟨bt, 0, none⟩ = some (.int .i64 T.kind) ∧ w'.cell? ⟨bt, 1, none⟩ = some (.int .i64 T.num) ∧ w'.cell? ⟨bt, 2, none⟩ = some (.slice ta T.kids.length tc)) (((w5.setCell ⟨gg, k * 3, none⟩ (.int .i64 T.kind)).setCell ⟨gg, k * 3 + 1, none⟩ (.int .i64 T.num)).setCell ⟨gg, k * 3 + 2, none⟩ (.slice ua T.kids.length uc)) := HKE.out _ _ _ hbg (HKE.out _ _ _ hbg (HKE.out _ _ _ hbg hE))
    have HE3 := tuck hE3
    have HE4 := tuck (HKE.out ⟨lb, 0, none⟩ (.slice (some ⟨gg, 0, none⟩) (k + 1) gcap) _ hbl hE3)
    have HE1 := tuck (HKE.out ⟨lb, 0, none⟩ (.slice (some ⟨gg, 0, none⟩) (k + 1) gcap) _ hbl hE)
    have HE2 := tuck (HKE.out ⟨gg, k * 3 + 2, none⟩ (.slice ua T.kids.length uc) _ hbg (HKE.out ⟨gg, k * 3 + 1, none⟩ (.int .i64 T.num) _ hbg (HKE.out ⟨gg, k * 3, none⟩ (.int .i64 T.kind) _ hbg HE1.out)))
    have HL3 : Hid ((((w5.setCell ⟨gg, k * 3, none⟩ (.int .i64 T.kind)).setCell ⟨gg, k * 3 + 1, none⟩ (.int .i64 T.num)).setCell ⟨gg, k * 3 + 2, none⟩ (.slice ua T.kids.length uc)).cell? ⟨lb, 0, none⟩ = some (.slice va k vc)) := tuck ((World.cell?_setCell_other _ ⟨gg, k * 3 + 2, none⟩ ⟨lb, 0, none⟩ _ (fun e => hgl (congrArg Addr.block e))).trans ((World.cell?_setCell_other _ ⟨gg, k * 3 + 1, none⟩ ⟨lb, 0, none⟩ _ (fun e => hgl (congrArg Addr.block e))).trans ((World.cell?_setCell_other _ ⟨gg, k * 3, none⟩ ⟨lb, 0, none⟩ _ (fun e => hgl (congrArg Addr.block e))).trans l0)))
    have HR0 := tuck ((World.cell?_setCell_other w5 ⟨lb, 0, none⟩ ⟨gg, k * 3, none⟩ (.slice (some ⟨gg, 0, none⟩) (k + 1) gcap) (fun e => hgl' (congrArg Addr.block e))).trans r0)
    have HR1 := tuck ((World.cell?_setCell_other w5 ⟨lb, 0, none⟩ ⟨gg, k * 3 + 1, none⟩ (.slice (some ⟨gg, 0, none⟩) (k + 1) gcap) (fun e => hgl' (congrArg Addr.block e))).trans r1)
    have HR2 := tuck ((World.cell?_setCell_other w5 ⟨lb, 0, none⟩ ⟨gg, k * 3 + 2, none⟩ (.slice (some ⟨gg, 0, none⟩) (k + 1) gcap) (fun e => hgl' (congrArg Addr.block e))).trans r2)
    clear hE hE3
    refine AnyTwo.fork (i := 7) (o := ⟨none, _, _, _, _, _⟩) (j := 8) (o' := ⟨none, _, _, _, _, _⟩) (by kernel_rfl) rfl rfl (fun K hK => ?_) (fun K hK => ?_)
    ·skip
     go_simp
     refine hK.out _ _ (ph_end (by kernel_rfl) HE3.out) ?_
     clear hK K
     have l3 := HL3.out
     have lf : ∀ i, (((w5.setCell ⟨gg, k * 3, none⟩ (.int .i64 T.kind)).setCell ⟨gg, k * 3 + 1, none⟩ (.int .i64 T.num)).setCell ⟨gg, k * 3 + 2, none⟩ (.slice ua T.kids.length uc)).frozen? ⟨lb, i, none⟩ = false := fun i => by simp [fl5]
     try simp only [pts]
     refine AnyTwo.step (i := 8) (o := ⟨none, _, _, _, _, _⟩) (by kernel_rfl) rfl (fun K hK => ?_)
     go_simp
     refine hK.out _ _ (ph_end (by kernel_rfl) HE4.out) ?_
     clear hK K
     try simp only [pts]
     refine AnyTwo.done (by kernel_rfl) ⟨rfl, ?_⟩ _
     exact ⟨rfl, HFIN.out.1, HFIN.out.2.1, HFIN.out.2.2⟩
    ·skip
     go_simp
     refine hK.out _ _ (ph_end (by kernel_rfl) HE1.out) ?_
     clear hK K
     have s0 := HR0.out
     have s1 := HR1.out
     have s2 := HR2.out
     have sf : ∀ i, (w5.setCell ⟨lb, 0, none⟩ (.slice (some ⟨gg, 0, none⟩) (k + 1) gcap)).frozen? ⟨gg, i, none⟩ = false := fun i => by simp [fg]
     try simp only [pts]
     refine AnyTwo.step (i := 7) (o := ⟨none, _, _, _, _, _⟩) (by kernel_rfl) rfl (fun K hK => ?_)
     go_simp
     refine hK.out _ _ (ph_end (by kernel_rfl) HE2.out) ?_
     clear hK K
     try simp only [pts]
     refine AnyTwo.done (by kernel_rfl) ⟨rfl, ?_⟩ _
     rw [HCM.out]
     exact ⟨rfl, HFIN.out.1, HFIN.out.2.1, HFIN.out.2.2⟩
  case hdone =>
   rintro M W ⟨hB, v, F, hv1, hQ, h4, h7⟩ hK
   rw [List.take_length] at hQ
   obtain ⟨va, vc, rfl⟩ := hQ.form
   obtain ⟨zl, cl, fl⟩ := block_of_cells hv1
   have c0 := cl 0
   simp only [List.size_toArray, List.length_cons, List.length_nil, Nat.lt_add_one, List.getElem?_toArray, List.getElem?_cons_zero] at c0
   have hzw := HB3.out.size
   obtain ⟨G, hG1, hG2, hG3⟩ := hQ.done (by have := (traceN_len 11 t).2; unfold maxLen; omega)
   have HFIN : Hid (TrOwn w (traceN 11 t) (.returned (.slice va (traceN 11 t).length vc)) (W.putObj W3.heap.size (.deferred none))) := tuck ⟨⟨hB.os, hB.tape, hB.output, by simpa [World.putObj] using hB.size, fun i hi => (World.putObj_heap_other (by omega)).trans (hB.block i hi)⟩, va, vc, G, rfl, hG1.keep fun g hg => SameAt.of_block (World.putObj_heap_other (by have := (hG3 g hg).1; omega)), hG2, fun g hg => ⟨by have := (hG3 g hg).1; omega, by have := (hG3 g hg).2; simpa [World.putObj] using this⟩⟩
   generalize TrOwn w (traceN 11 t) = post at *
   generalize (traceN 11 t).length = n at *
   clear hB hQ hv1 hG1 hG2 hG3 h4
   gi_wp2
   refine ⟨by simp, .inl ⟨_, _, rfl, run_takeDeferred hK, ?_⟩⟩
   exact ⟨.slice va n vc, by simp [results, Tryz.results6, go_sem], HFIN.out⟩
 ·rw [traceL_no hv]
  have HVI : Hid (∀ (W : World) (h : SlIn W 0 t.kids (.slice a t.kids.length c)), Calls Tryz.prog 10 #[.agg #[.int .i64 t.kind, .int .i64 t.num, .slice a t.kids.length c]] W (BoolPost W false)) := tuck fun W h => by
   have h2 := validI_any t W _ ⟨_, rfl, h⟩
   rwa [tr_not hv] at h2
  have HFIN : Hid (∀ W, Below w.heap.size w W → TrOwn w [] (.returned (.slice none 0 0)) W) := tuck fun W hW => ⟨hW, none, 0, [], rfl, SlOwn.nil _ _ _, List.nodup_nil, fun g h => by cases h⟩
  generalize TrOwn w [] = post at *
  clear hv hs
  gi_wp2_with fail
  refine ⟨trivial, (callsIn_wide.2 (HVI.out _ (HS.out.below (below1 _ _)))).mono ?_⟩
  rintro e W1 ⟨rfl, hb1⟩
  have HB1 := tuck (bAfter (below1 w _) hb1)
  clear hb1
  gi_wp2_with fail
  exact ⟨.slice none 0 0, by simp [results, Tryz.results6, go_sem], HFIN.out _ HB1.out⟩
end Go.Proofs.YtlbikgnanabjgaaGreat
