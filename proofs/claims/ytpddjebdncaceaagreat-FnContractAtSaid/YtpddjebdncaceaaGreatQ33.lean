/-
  NodeX, Plc, TeleS.
-/
import Derived.Test.YtpddjebdncaceaaGreatQ20
import Derived.Test.YtpddjebdncaceaaGreatQ24
import Derived.Test.YtpddjebdncaceaaGreatQ29
import Derived.Test.YtpddjebdncaceaaGreatQ32
import Derived.Deep.DeepCutAuto
namespace Go.Proofs.YtpddjebdncaceaaGreat
def way (t : Tm) (N : Int → Int) : Nat → Option (List (Tm × Nat) × Tm)
 | 0 => some ([], t)
 | i + 1 => (way t N i).bind fun x => if 0 ≤ N i ∧ N i < (x.2.kids.length : Int) then some (x.1 ++ [(x.2, (N i).toNat)], kidT x.2 (N i).toNat) else none
def wayP (t : Tm) (N : Int → Int) (i : Nat) : List (Tm × Nat) := ((way t N i).getD ([], zeroT)).1
def wayT (t : Tm) (N : Int → Int) (i : Nat) : Tm := ((way t N i).getD ([], zeroT)).2
def IsPlace (t : Tm) (N : Int → Int) (len : Nat) : Prop := t.Valid ∧ (way t N len).isSome = true
theorem way_yes {t : Tm} {N : Int → Int} {i : Nat} {p : List (Tm × Nat)} {x : Tm} (h : way t N i = some (p, x)) (hi : 0 ≤ N i ∧ N i < (x.kids.length : Int)) : way t N (i + 1) = some (p ++ [(x, (N i).toNat)], kidT x (N i).toNat) := by
 rw [way, h]
 simp only [Option.bind_some]
 rw [if_pos hi]
theorem way_no {t : Tm} {N : Int → Int} {i : Nat} {p : List (Tm × Nat)} {x : Tm} (h : way t N i = some (p, x)) (hi : ¬ (0 ≤ N i ∧ N i < (x.kids.length : Int))) : way t N (i + 1) = none := by
 rw [way, h]
 simp only [Option.bind_some]
 rw [if_neg hi]
theorem way_stays {t : Tm} {N : Int → Int} {i : Nat} (h : way t N i = none) : ∀ k, way t N (i + k) = none
 | 0 => h
 | k + 1 => by
  rw [← Nat.add_assoc, way, way_stays h k]
  rfl
theorem no_place {t : Tm} {N : Int → Int} {i len : Nat} {p : List (Tm × Nat)} {x : Tm} (h : way t N i = some (p, x)) (hi : ¬ (0 ≤ N i ∧ N i < (x.kids.length : Int))) (hl : i < len) : ¬ IsPlace t N len := by
 rintro ⟨-, h2⟩
 have := way_stays (way_no h hi) (len - (i + 1))
 rw [show i + 1 + (len - (i + 1)) = len by omega] at this
 rw [this] at h2
 cases h2
theorem is_place {t : Tm} {N : Int → Int} {len : Nat} {p : List (Tm × Nat)} {x : Tm} (hv : t.Valid) (h : way t N len = some (p, x)) : IsPlace t N len ∧ wayP t N len = p ∧ wayT t N len = x := by
 refine ⟨⟨hv, by rw [h]; rfl⟩, ?_, ?_⟩
 ·rw [wayP, h]; rfl
 ·rw [wayT, h]; rfl
theorem IsPlace.way {t : Tm} {N : Int → Int} {len : Nat} (h : IsPlace t N len) : way t N len = some (wayP t N len, wayT t N len) := by
 obtain ⟨-, h⟩ := h
 unfold wayP wayT
 cases hw : Go.Proofs.YtpddjebdncaceaaGreat.way t N len with
 | none => rw [hw] at h; cases h
 | some y => rfl
def Chain (t : Tm) : List (Tm × Nat) → Tm → Prop
 | [], x => t = x
 | (a, i) :: p, x => a = t ∧ i < t.kids.length ∧ Chain (kidT t i) p x
theorem Chain.snoc : ∀ {p : List (Tm × Nat)} {t x : Tm} {i : Nat}, Chain t p x → i < x.kids.length → Chain t (p ++ [(x, i)]) (kidT x i)
 | [], _, _, _, h, hi => by
  rw [Chain] at h
  subst h
  exact ⟨rfl, hi, rfl⟩
 | (a, j) :: p, t, x, i, h, hi => ⟨h.1, h.2.1, Chain.snoc (p := p) h.2.2 hi⟩
theorem around_snoc : ∀ (p : List (Tm × Nat)) (x z : Tm) (i : Nat), around (p ++ [(x, i)]) z = around p (.mk x.kind x.num (x.kids.set i z))
 | [], x, z, i => rfl
 | (a, j) :: p, x, z, i => by
  rw [List.cons_append, around, around, around_snoc p x z i]
theorem set_kidT {l : List Tm} {i : Nat} (hi : i < l.length) : l.set i (l.getD i zeroT) = l := by
 apply List.ext_getElem
 ·simp
 ·intro j h1 h2
  by_cases e : i = j
  ·subst e
   simp [List.getD_eq_getElem?_getD, List.getElem?_eq_getElem hi]
  ·simp [List.getElem_set_ne e]
theorem inPath_snoc : ∀ {p : List (Tm × Nat)} {x : Tm} {i : Nat}, InPath p → i < x.kids.length → InPath (p ++ [(x, i)])
 | [], _, _, _, hi => ⟨hi, trivial⟩
 | _ :: p, _, _, h, hi => ⟨h.1, inPath_snoc (p := p) h.2 hi⟩
structure Known (t : Tm) (N : Int → Int) (i : Nat) (p : List (Tm × Nat)) (x : Tm) : Prop where
 len : p.length = i
 valid : x.Valid
 room : hgts x.kids + p.length ≤ hgts t.kids
 inn : InPath p
 nodes : ∀ y ∈ p, y.1.Valid
 back : around p x = t
 chain : Chain t p x
 ix : ∀ j (h : j < p.length), ((p[j].2 : Nat) : Int) = N (j : Int)
theorem way_ok {t : Tm} {N : Int → Int} (hv : t.Valid) : ∀ (i : Nat) (p : List (Tm × Nat)) (x : Tm), way t N i = some (p, x) → Known t N i p x
 | 0, p, x, h => by
  rw [way] at h
  obtain ⟨rfl, rfl⟩ : [] = p ∧ t = x := by simpa using h
  exact ⟨rfl, hv, Nat.le_refl _, trivial, fun y hy => (by cases hy), rfl, rfl, fun j h => (by simp at h)⟩
 | i + 1, p, x, h => by
  rw [way] at h
  cases hw : way t N i with
  | none => rw [hw] at h; cases h
  | some y =>
   obtain ⟨q, z⟩ := y
   rw [hw] at h
   simp only [Option.bind_some] at h
   by_cases hi : 0 ≤ N i ∧ N i < (z.kids.length : Int)
   ·rw [if_pos hi] at h
    obtain ⟨rfl, rfl⟩ : q ++ [(z, (N i).toNat)] = p ∧ kidT z (N i).toNat = x := by simpa using h
    have ih := way_ok hv i q z hw
    have hj : (N i).toNat < z.kids.length := by omega
    refine ⟨by simp [ih.len], ih.valid.kidT hj, ?_, inPath_snoc ih.inn hj, ?_, ?_, ih.chain.snoc hj, ?_⟩
    ·have h1 := mem_hgts hj
     rw [kidT_eq hj]
     have h2 := (z.kids[(N i).toNat]).hgt_eq
     have h3 := ih.room
     rw [List.length_append, List.length_singleton]
     omega
    ·intro y hy
     rcases List.mem_append.1 hy with hy | hy
     ·exact ih.nodes y hy
     ·rw [List.mem_singleton.1 hy]; exact ih.valid
    ·rw [around_snoc]
     unfold kidT
     rw [set_kidT hj, Tm.eta]
     exact ih.back
    ·intro j hjl
     rw [List.length_append, List.length_singleton] at hjl
     rcases Nat.lt_or_ge j q.length with hlt | hge
     ·rw [List.getElem_append_left hlt]; exact ih.ix j hlt
     ·have e : j = q.length := by omega
      subst e
      rw [List.getElem_append_right (Nat.le_refl _)]
      simp only [Nat.sub_self, List.getElem_cons_zero]
      rw [ih.len]
      omega
   ·rw [if_neg hi] at h; cases h
theorem IsPlace.ok {t : Tm} {N : Int → Int} {len : Nat} (h : IsPlace t N len) : Known t N len (wayP t N len) (wayT t N len) := way_ok h.1 _ _ _ h.way
theorem Known.short {t : Tm} {N : Int → Int} {i : Nat} {p : List (Tm × Nat)} {x : Tm} (h : Known t N i p x) (hv : t.Valid) : i ≤ 29 ∧ p.length ≤ 29 := by
 have h1 := h.room
 have h2 := h.len
 have h3 := t.hgt_eq
 have h4 := hv.2.1
 omega
theorem Tm.Valid.kids4 {t : Tm} (h : t.Valid) : t.kids.length ≤ 4 := by
 have h1 := h.root.1
 have : arity t.kind ≤ 4 := by unfold arity; (repeat' split) <;> omega
 omega
end Go.Proofs.YtpddjebdncaceaaGreat
namespace Go.Proofs.YtpddjebdncaceaaGreat
open Go.RowKit
def NodeR (k : Int) (r : List (Tm × Value)) (w : World) (e : Ending) (w' : World) : Prop := Below w.heap.size w w' ∧ ∃ g c, e = .returned (.agg #[I6 k, I6 0, .slice (some ⟨g, 0, none⟩) r.length c]) ∧ w.heap.size < g ∧ ∀ j u, (cellsL r)[j]? = some u → w'.cell? ⟨g, j, none⟩ = some u
set_option maxRecDepth 100000 in
theorem nodeR_any (k : Int) (r : List (Tm × Value)) (w : World) (b o cap : Nat) (hne : r ≠ []) (hl : r.length ≤ 100000) (hcell : ∀ j u, (cellsL r)[j]? = some u → w.cell? ⟨b, o + j, none⟩ = some u) (hin : ∀ u ∈ cellsL r, u.oneCell' = true) :
  Calls Tryz.prog 86 #[I6 k, .slice (some ⟨b, o, none⟩) r.length cap] w (NodeR k r w) := by
 obtain ⟨i0, hi, hz0, hz1, hz2⟩ := info_parts info_term'
 have HC := tuck hcell
 have HIN := tuck hin
 have HI := tuck hi
 have HZ0 := tuck hz0
 have HZ1 := tuck hz1
 have HZ2 := tuck hz2
 clear hcell hin hi hz0 hz1 hz2
 go_enter Tryz.func86, Tryz.ntmps86
 have hlt : b < w.heap.size := by
  cases r with
  | nil => exact absurd rfl hne
  | cons x r => exact World.block_lt_of_cell? w _ (HC.out 0 _ rfl)
 go_wp2_with (at_builtin; refine wpList_append_own _ rfl (.tmp 6) (.tmp 7) 32 rfl (w.heap.size + 1) 34 i0 _ 3 40 Tryz.underlying32 HI.out HZ0.out HZ1.out HZ2.out rfl (by decide) (.slice (some ⟨w.heap.size + 1, 0, none⟩) 0 0) 0 [] rfl ?own ⟨b, o, none⟩ r.length cap (cellsL r) rfl ?len ?cells ?one ?c63 ?cby ?cbase ?next)
 case own =>
  have := World.ownsRow_made (w.alloc (.cells #[I6 0, I6 0, .slice none 0 0] 34)) #[] 0 (base := w.heap.size + 1) (e := 34) (size := 3) (by simp) (by simp [maxLen]) rfl
  simpa using this
 case len => rw [cellsL_length]
 case cells =>
  intro j u hu
  have := HC.out j u hu
  have ea : (Addr.mk b o none).add j = ⟨b, o + j, none⟩ := by unfold Addr.add; split <;> simp_all
  rw [ea]
  exact ((below2 w _ _).cell (p := ⟨b, o + j, none⟩) hlt).trans this
 case one => exact HIN.out
 case c63 => simp [maxLen]; omega
 case cby => omega
 case cbase => simp
 case next =>
  intro v' w' hown hgrow _
  have hbel : Below w.heap.size w w' := (below2 w _ _).grown hgrow (by simp; omega) (fun g hg => by simp [Value.ownBlock] at hg; omega)
  have hz : w.heap.size < w'.heap.size := by have := hgrow.size; simp at this; omega
  have hc0 : ∀ i, w'.cell? ⟨w.heap.size, i, none⟩ = ((w.alloc (.cells #[I6 0, I6 0, .slice none 0 0] 34)).alloc (.cells #[] 34)).cell? ⟨w.heap.size, i, none⟩ := fun i =>
   World.cell?_of_block (hgrow.block w.heap.size (by simp; omega) (fun e => by simp [Value.ownBlock] at e))
  have hf0 : ∀ i, w'.frozen? ⟨w.heap.size, i, none⟩ = ((w.alloc (.cells #[I6 0, I6 0, .slice none 0 0] 34)).alloc (.cells #[] 34)).frozen? ⟨w.heap.size, i, none⟩ := fun i =>
   World.frozen?_of_block (hgrow.block w.heap.size (by simp; omega) (fun e => by simp [Value.ownBlock] at e))
  have hsl : ∃ g c, v' = .slice (some ⟨g, 0, none⟩) r.length c ∧ w.heap.size < g ∧ ∀ j u, (cellsL r)[j]? = some u → w'.cell? ⟨g, 0 + j, none⟩ = some u := by
   rcases hown.2 with ⟨_, h0⟩ | ⟨g, c, cur, rfl, hg, _⟩
   ·exact absurd (List.length_eq_zero_iff.1 h0) hne
   ·refine ⟨g, c, rfl, by omega, fun j u hu => ?_⟩
    rw [Nat.zero_add, hown.cellAt j (by have := (List.getElem?_eq_some_iff.1 hu).1; rw [cellsL_length] at this; exact this)]
    exact hu
  obtain ⟨g, c, rfl, hg, hsl⟩ := hsl
  have HSL := tuck hsl
  have HBEL := tuck hbel
  clear hsl hbel hown hgrow
  go_wp2_with fail
  refine bodyPost_ret (v := .agg #[I6 k, I6 0, .slice (some ⟨g, 0, none⟩) r.length c]) (by simp [results, Tryz.results86, go_sem, hc0]) rfl ?_
  have hb3 := bSet3 HBEL.out (Nat.le_refl w.heap.size) 0 1 2 (I6 k) (I6 0) (.slice (some ⟨g, 0, none⟩) r.length c)
  refine ⟨hb3, g, c, rfl, hg, fun j u hu => ?_⟩
  have hne3 : ∀ i, (⟨w.heap.size, i, none⟩ : Addr) ≠ ⟨g, 0 + j, none⟩ := fun i e => by injection e; omega
  have hq := HSL.out j u hu
  rw [show (⟨g, j, none⟩ : Addr) = ⟨g, 0 + j, none⟩ by rw [Nat.zero_add]]
  rw [World.cell?_setCell_other _ _ _ _ (hne3 _), World.cell?_setCell_other _ _ _ _ (hne3 _), World.cell?_setCell_other _ _ _ _ (hne3 _)]
  exact hq
theorem nodeX_any (k : Int) (r : List (Tm × Value)) (w : World) (R cap : Nat) (T : TypeId) (cs : Array Value) (X : Nat → Prop) (hX : ∀ i, X i → i < w.heap.size) (hne : r ≠ []) (hl : r.length ≤ 100000) (hb : w.heap[R]? = some (.cells cs T (0, 0))) (hc : cs.toList = cellsL r) (hx : ∀ x ∈ r, SlX w X x.1.kids x.2) :
  Calls Tryz.prog 86 #[I6 k, .slice (some ⟨R, 0, none⟩) r.length cap] w fun e w' => Below w.heap.size w w' ∧ ∃ (a : Option Addr) (c : Nat), e = .returned (.agg #[I6 k, I6 0, .slice a r.length c]) ∧ SlX w' X (r.map (·.1)) (.slice a r.length c) := by
 obtain ⟨b1, b2, -⟩ := block_of_cells hb
 refine (nodeR_any k r w R 0 cap hne hl (fun j u hu => ?_) (cellsL_one fun x hx' => (hx x hx').sl)).mono ?_
 ·rw [Nat.zero_add, b2, ← Array.getElem?_toList, hc]; exact hu
 ·rintro e w' ⟨hb', g, c, rfl, hg, hrow⟩
  refine ⟨hb', some ⟨g, 0, none⟩, c, rfl, ?_⟩
  have hr : RowAt (mask w' X) 0 (r.map (·.1)) g 0 := RowAt.of_list (fun j u hu => mask_cell.2 ⟨fun h => by have := hX _ h; dsimp only at this; omega, by rw [Nat.zero_add]; exact hrow j u hu⟩) (fun x hx' => (hx x hx').below hb')
  refine ⟨_, c, g, 0, ?_, ?_, fun _ => ⟨rfl, Nat.zero_le _⟩, hr⟩
  ·rw [List.length_map]
  ·rw [List.length_map]; unfold maxLen; omega
theorem SlX.lay {w : World} {X : Nat → Prop} {l : List Tm} {v : Value} (h : SlX w X l v) (o : Obj) : SlX (w.alloc o) (fun i => X i ∨ i = w.heap.size) l v :=
 h.to fun p u hn hc => by
  have hp := World.block_lt_of_cell? w p hc
  exact ⟨fun hx => by
   rcases hx with hx | hx
   ·exact hn hx
   ·omega, ((below1 w o).cell hp).trans hc⟩
theorem SlX.put {w : World} {X : Nat → Prop} {l : List Tm} {v : Value} (h : SlX w X l v) {g : Nat} (hg : X g) (i j k : Nat) (x y z : Value) : SlX (((w.setCell ⟨g, i, none⟩ x).setCell ⟨g, j, none⟩ y).setCell ⟨g, k, none⟩ z) X l v :=
 ((h.set (q := ⟨g, i, none⟩) hg _).set (q := ⟨g, j, none⟩) hg _).set (q := ⟨g, k, none⟩) hg _
theorem SlX.less {w : World} {X Y : Nat → Prop} {l : List Tm} {v : Value} (h : SlX w Y l v) (hXY : ∀ i, X i → Y i) : SlX w X l v :=
 h.to fun _ _ hn hc => ⟨fun hx => hn (hXY _ hx), hc⟩
end Go.Proofs.YtpddjebdncaceaaGreat
namespace Go.Proofs.YtpddjebdncaceaaGreat
open Go.RowKit
def TlPost (w : World) (T : Tm) (e : Ending) (w' : World) : Prop := Below w.heap.size w w' ∧ ∃ (a : Option Addr) (c : Nat), e = .returned (.agg #[I6 T.kind, I6 T.num, .slice a T.kids.length c]) ∧ SlIn w' w.heap.size T.kids (.slice a T.kids.length c)
theorem MadePost.tl {w w' : World} {T : Tm} {e : Ending} (h : MadePost w T e w') : TlPost w T e w' := by
 obtain ⟨hb, v, rfl, s, F, rfl, hs, -, hF⟩ := h
 obtain ⟨a, c, rfl⟩ := hs.form
 exact ⟨hb, a, c, rfl, hs.sl fun g hg => (hF g hg).1⟩
theorem tl_copyS (t : Tm) (ht : sizes t.kids ≤ 1000000) (w : World) (s : Value) (hs : SlIn w 0 t.kids s) : Calls Tryz.prog 83 #[.agg #[I6 t.kind, I6 t.num, s]] w (TlPost w t) := by
 have h := lcopy_any t.kids t.kind t.num w s ht hs
 rw [Tm.eta] at h
 exact h.mono fun _ _ h => h.tl
def MdPost (w : World) (T : Tm) (s : Value) (e : Ending) (w' : World) : Prop := Below w.heap.size w w' ∧ ((T.Valid ∧ e = .returned (.tuple #[.agg #[I6 T.kind, I6 T.num, s], .bool true])) ∨ (¬ T.Valid ∧ e = .returned (.tuple #[.agg #[I6 0, I6 0, .slice none 0 0], .bool false])))
set_option maxRecDepth 100000 in
theorem madeS_any (t : Tm) (w : World) (s : Value) (h : SlIn w 0 t.kids s) : Calls Tryz.prog 48 #[.agg #[I6 t.kind, I6 t.num, s]] w (MdPost w t s) := by
 obtain ⟨sa, sc, rfl⟩ := h.form
 have HS := tuck h
 clear h
 have HV : Hid (∀ w', SlIn w' 0 t.kids (.slice sa t.kids.length sc) → Calls Tryz.prog 32 #[.agg #[I6 t.kind, I6 t.num, .slice sa t.kids.length sc]] w' (BoolPost w' (tr t.Valid))) := tuck fun w' h => validS_any t w' _ ⟨_, rfl, h⟩
 have hb2 := below2 w (.cells #[I6 t.kind, I6 t.num, .slice sa t.kids.length sc] 34) (.cells #[I6 0, I6 0, .slice none 0 0] 34)
 have HV0 := tuck ((VarAt.new w t.kind t.num (.slice sa t.kids.length sc)).below (below1 _ (.cells #[I6 0, I6 0, .slice none 0 0] 34)))
 have HV1 := tuck (var_new1 w (.cells #[I6 t.kind, I6 t.num, .slice sa t.kids.length sc] 34) 0 0 (.slice none 0 0))
 have HB2 := tuck hb2
 clear hb2
 have HPY : Hid (tr t.Valid = true → ∀ w', Below w.heap.size w w' → MdPost w t (.slice sa t.kids.length sc) (.returned (.tuple #[.agg #[I6 t.kind, I6 t.num, .slice sa t.kids.length sc], .bool true])) w') := tuck fun h w' hb => ⟨hb, Or.inl ⟨tr_iff.1 h, rfl⟩⟩
 have HPN : Hid (tr t.Valid = false → ∀ w', Below w.heap.size w w' → MdPost w t (.slice sa t.kids.length sc) (.returned (.tuple #[.agg #[I6 0, I6 0, .slice none 0 0], .bool false])) w') := tuck fun h w' hb => ⟨hb, Or.inr ⟨tr_false.1 h, rfl⟩⟩
 generalize MdPost w t (.slice sa t.kids.length sc) = post at *
 generalize tr t.Valid = ok at *
 go_enter Tryz.func48, Tryz.ntmps48
 go_wp2_with fail
 generalize ((w.alloc (.cells #[I6 t.kind, I6 t.num, .slice sa t.kids.length sc] 34)).alloc (.cells #[I6 0, I6 0, .slice none 0 0] 34)) = W0 at *
 refine (HV.out _ (HS.out.below HB2.out)).mono ?_
 rintro e w1 ⟨rfl, hb1⟩
 obtain ⟨z0, a0, a1, a2, -⟩ := (HV0.out.below hb1).facts
 obtain ⟨z1, r0, r1, r2, rf⟩ := (HV1.out.below hb1).facts
 have HB := tuck (bAfter HB2.out hb1)
 clear hb1 HV0 HV1 HB2
 cases ok
 ·go_wp2_with fail
  refine bodyPost_ret (v := .tuple #[.agg #[I6 0, I6 0, .slice none 0 0], .bool false]) (by simp [results, Tryz.results48, go_sem, *]) rfl (HPN.out (by trivial) _ ?_)
  first | exact bSet3 HB.out (Nat.le_succ _) _ _ _ _ _ _ | exact HB.out
 ·go_wp2_with fail
  refine bodyPost_ret (v := .tuple #[.agg #[I6 t.kind, I6 t.num, .slice sa t.kids.length sc], .bool true]) (by simp [results, Tryz.results48, go_sem, *]) rfl (HPY.out (by trivial) _ ?_)
  exact bSet3 HB.out (Nat.le_succ _) _ _ _ _ _ _
end Go.Proofs.YtpddjebdncaceaaGreat
