/-
  PlJ.
-/
import Derived.Test.YtleijaegpfjnpaaB19
import Derived.Test.YtleijaegpfjnpaaB38
import Derived.Test.YtleijaegpfjnpaaB48
import Derived.Test.YtleijaegpfjnpaaB55
import Derived.Test.YtleijaegpfjnpaaB56
import Derived.Test.YtleijaegpfjnpaaB57
namespace Go.Proofs.Ytleijaegpfjnpaa
open Go.RowKit
theorem scopeOf_valid : ∀ {p : List (Tm × Nat)}, InPath p → (∀ y ∈ p, y.1.Valid) → ∀ x ∈ scopeOf p, x.Valid
 | [], _, _, x, h => by simp [scopeOf] at h
 | (t, i) :: p, hp, hv, x, h => by
  unfold scopeOf at h
  rw [List.filterMap_cons] at h
  have h0 := hp.1
  by_cases hu : under t.kind i = 1
  ·simp only [hu, if_true, List.mem_cons] at h
   rcases h with rfl | h
   ·exact (hv (t, i) (by simp)).kidT (Nat.lt_of_le_of_lt (Nat.zero_le i) h0)
   ·exact scopeOf_valid (p := p) hp.2 (fun y hy => hv y (by simp [hy])) x h
  ·simp only [if_neg hu] at h
   exact scopeOf_valid (p := p) hp.2 (fun y hy => hv y (by simp [hy])) x h
def CtxOk (l : List Tm) (t : Tm) (N : Int → Int) (len : Nat) : Prop := Fits l ∧ IsPlace t N len ∧ l.length + bindersIn (wayP t N len) ≤ 8
def ctxOf (l : List Tm) (t : Tm) (N : Int → Int) (len : Nat) : List Tm := l ++ scopeOf (wayP t N len)
theorem ctxOf_length (l : List Tm) (t : Tm) (N : Int → Int) (len : Nat) : (ctxOf l t N len).length = l.length + bindersIn (wayP t N len) := by
 unfold ctxOf
 rw [List.length_append, scopeOf_length]
theorem ctxOf_valid {l : List Tm} {t : Tm} {N : Int → Int} {len : Nat} (h : Fits l) (hp : IsPlace t N len) : ∀ x ∈ ctxOf l t N len, x.Valid := by
 intro x hx
 rcases List.mem_append.1 hx with hx | hx
 ·exact h.1 x hx
 ·exact scopeOf_valid hp.ok.inn hp.ok.nodes x hx
def LbPost (w : World) (P : Prop) (l : List Tm) (e : Ending) (w' : World) : Prop := Below w.heap.size w w' ∧ ∃ (a : Option Addr) (c : Nat) (F : List Nat), e = .returned (.tuple #[.slice a (orNil P l).length c, .bool (tr P)]) ∧ SlOwn w' (orNil P l) (.slice a (orNil P l).length c) F ∧ F.Nodup ∧ ∀ g ∈ F, w.heap.size ≤ g ∧ g < w'.heap.size
theorem LbPost.no {w w' : World} {P : Prop} {l : List Tm} (hP : ¬ P) (hb : Below w.heap.size w w') : LbPost w P l (.returned (.tuple #[.slice none 0 0, .bool false])) w' := by
 have e : orNil P l = [] := by unfold orNil; rw [if_neg hP]
 refine ⟨hb, none, 0, [], ?_, ?_, List.nodup_nil, fun g h => by cases h⟩
 ·rw [e, tr_not hP]; rfl
 ·rw [e]; exact SlOwn.nil _ _ _
theorem LbPost.yes {w w' : World} {P : Prop} {l : List Tm} {a : Option Addr} {c : Nat} {F : List Nat} (hP : P) (hb : Below w.heap.size w w') (hs : SlOwn w' l (.slice a l.length c) F) (hn : F.Nodup) (hF : ∀ g ∈ F, w.heap.size ≤ g ∧ g < w'.heap.size) : LbPost w P l (.returned (.tuple #[.slice a l.length c, .bool true])) w' := by
 have e : orNil P l = l := by unfold orNil; rw [if_pos hP]
 refine ⟨hb, a, c, F, ?_, ?_, hn, hF⟩
 ·rw [e, tr_of hP]
 ·rw [e]; exact hs
set_option maxRecDepth 100000 in
set_option maxHeartbeats 1600000 in
theorem contextI_any (l : List Tm) (t : Tm) (N : Int → Int) (len : Nat) (hlen : len ≤ 1048576) (w : World) (vl vt vp : Value) (hl : SlIn w 0 l vl) (ht : TmIn w 0 t vt) (hp : Ints w 0 N len vp) :
  Calls Try.prog 33 #[vl, vt, vp] w (LbPost w (CtxOk l t N len) (ctxOf l t N len)) := by
 obtain ⟨s, rfl, hs⟩ := ht
 obtain ⟨a, c, rfl⟩ := hs.form
 obtain ⟨la, lc, lb, lo, rfl, hlm, hlp, hlc⟩ := hl.open
 unfold maxLen at hlm
 clear hlp hlc
 have HNO : Hid (¬ CtxOk l t N len → ∀ w', Below w.heap.size w w' → LbPost w (CtxOk l t N len) (ctxOf l t N len) (.returned (.tuple #[.slice none 0 0, .bool false])) w') := tuck fun h w' hb => LbPost.no h hb
 have HYES : Hid (CtxOk l t N len → ∀ w' a c F m, m = (ctxOf l t N len).length → Below w.heap.size w w' → SlOwn w' (ctxOf l t N len) (.slice a m c) F → F.Nodup → (∀ g ∈ F, w.heap.size ≤ g ∧ g < w'.heap.size) → LbPost w (CtxOk l t N len) (ctxOf l t N len) (.returned (.tuple #[.slice a m c, .bool true])) w') := tuck fun h w' a c F m e h1 h2 h3 h4 => by subst e; exact LbPost.yes h h1 h2 h3 h4
 generalize LbPost w (CtxOk l t N len) (ctxOf l t N len) = post at *
 have HS := tuck hs
 have HP := tuck hp
 have HL := tuck hl
 have HBT := tuck (VarAt.new w t.kind t.num (.slice a t.kids.length c))
 have HB0 := tuck (below1 w (.cells #[.int .i64 t.kind, .int .i64 t.num, .slice a t.kids.length c] 29))
 clear hs hp hl
 by_cases h8 : l.length ≤ 8
 rotate_left
 ·have hgt : (8 : Int) < (l.length : Int) := by omega
  have hgt2 : (l.length : Int) > 8 := by omega
  have hgt3 : decide ((l.length : Int) > 8) = true := by simpa using hgt
  have HN := tuck (HNO.out (fun h => h8 h.1.2))
  clear h8
  go_enter Try.func33, Try.ntmps33
  go_wp2_with fail
  exact HN.out _ HB0.out
 have hle2 : ¬ ((l.length : Int) > 8) := by omega
 have hle3 : decide ((l.length : Int) > 8) = false := by simp; omega
 have hle4 : ¬ ((8 : Int) < (l.length : Int)) := by omega
 have HAV := tuck (fun W (h : SlIn W 0 l (.slice la l.length lc)) => allValid_any l W _ h (by omega))
 go_enter Try.func33, Try.ntmps33
 go_wp2_with fail
 generalize w.alloc (.cells #[.int .i64 t.kind, .int .i64 t.num, .slice a t.kids.length c] 29) = W0 at *
 refine (HAV.out W0 (HL.out.below HB0.out)).mono ?_
 rintro e w1 ⟨rfl, hb1⟩
 have HB1 := tuck (bAfter HB0.out hb1)
 have HT1 := tuck (HBT.out.below hb1)
 clear hb1 HAV HBT HB0
 by_cases hav : ∀ x ∈ l, x.Valid
 rotate_left
 ·rw [tr_not hav]
  go_wp2_with fail
  exact HNO.out (fun h => hav h.1.1) _ HB1.out
 rw [tr_of hav]
 have hfit : Fits l := ⟨hav, h8⟩
 obtain ⟨z, d0, d1, d2, df⟩ := HT1.out.facts
 go_wp2_with fail
 refine (placeI_any t N len hlen w1 _ _ ⟨_, rfl, HS.out.below HB1.out⟩ (HP.out.below HB1.out)).mono ?_
 rintro e w2 ⟨hb2, hat⟩
 have HB2 := tuck (bAfter HB1.out hb2)
 clear z d0 d1 d2 df HP HS hb2 HT1
 rcases hat with ⟨hpl, g, M, rfl, hcur, -⟩ | ⟨hno, rfl⟩
 rotate_left
 ·go_wp2_with fail
  exact HNO.out (fun h => hno h.2.1) _ HB2.out
 have hk := hpl.ok
 have hsh := (hk.short hpl.1).2
 have HSC := tuck (scopeI_any hk.inn (by omega) hcur)
 have hln := scopeOf_length (wayP t N len)
 have hbl := bindersIn_le (wayP t N len)
 have hcl := ctxOf_length l t N len
 clear hcur hk
 go_wp2_with fail
 refine HSC.out.mono ?_
 rintro e w3 ⟨hb3, ya, yc, rfl, hy⟩
 have HB3 := tuck (bAfter HB2.out hb3)
 rw [hln] at hy ⊢
 have hbx := below1 w3 (.cells #[.slice la l.length lc, .slice ya (bindersIn (wayP t N len)) yc] 68)
 have hblk := heap_new w3 (.cells #[.slice la l.length lc, .slice ya (bindersIn (wayP t N len)) yc] 68)
 obtain ⟨zc, e0, -⟩ := block_of_cells hblk
 have hcat := concat_any [(l, la, lc), (scopeOf (wayP t N len), ya, yc)] (by simp) (fun j hj => by
   have : j = 0 ∨ j = 1 := by simp at hj; omega
   rcases this with rfl | rfl
   ·show l.length ≤ 90; omega
   ·show (scopeOf (wayP t N len)).length ≤ 90; omega) _ w3.heap.size 2 zc (fun j hj => by
   have : j = 0 ∨ j = 1 := by simp at hj; omega
   rcases this with rfl | rfl
   ·exact e0 0
   ·show _ = some (Value.slice ya (scopeOf (wayP t N len)).length yc); rw [hln]; exact e0 1) (fun j hj => by
   have : j = 0 ∨ j = 1 := by simp at hj; omega
   rcases this with rfl | rfl
   ·exact HL.out.below (bAfter HB3.out hbx)
   ·show SlIn _ 0 (scopeOf (wayP t N len)) (.slice ya (scopeOf (wayP t N len)).length yc); rw [hln]; exact hy.below hbx)
 have hpt : parts [(l, la, lc), (scopeOf (wayP t N len), ya, yc)] [(l, la, lc), (scopeOf (wayP t N len), ya, yc)].length = ctxOf l t N len := by simp [parts, ctxOf]
 rw [hpt] at hcat
 have HCAT := tuck hcat
 have HB4 := tuck (bAfter HB3.out hbx)
 have HVAL := tuck (ctxOf_valid hfit hpl)
 have hok : CtxOk l t N len ↔ (ctxOf l t N len).length ≤ 8 := ⟨fun h => by rw [hcl]; exact h.2.2, fun h => ⟨hfit, hpl, by rw [← hcl]; exact h⟩⟩
 have HOK := tuck hok
 have hcl40 : (ctxOf l t N len).length ≤ 100 := by omega
 clear hok hcat hpt hbx hblk zc e0 hy hb3 HSC hfit hpl hln hcl hav h8
 generalize bindersIn (wayP t N len) = m at *
 generalize ctxOf l t N len = L at *
 go_wp2_with fail
 refine HCAT.out.mono ?_
 rintro e w5 ⟨hb5, xa, xc, rfl, hx⟩
 have HB5 := tuck (bAfter HB4.out hb5)
 have HX := tuck hx
 clear hb5 hx HCAT HB4
 by_cases hL : L.length ≤ 8
 rotate_left
 ·have hgt : (8 : Int) < (L.length : Int) := by omega
  have hgt2 : (L.length : Int) > 8 := by omega
  have HN := tuck (HNO.out (fun h => hL (HOK.out.1 h)))
  clear hL
  go_wp2_with fail
  exact HN.out _ HB5.out
 have hngt : ¬ ((8 : Int) < (L.length : Int)) := by omega
 have hngt2 : ¬ ((L.length : Int) > 8) := by omega
 have HY := tuck (HYES.out (HOK.out.2 hL))
 have HCL := tuck (cloneL_any L (fun x hx => by have := (valid_bounds (HVAL.out x hx)).1; omega) (by omega) w5 _ HX.out)
 clear hL HYES HNO HOK
 go_wp2_with fail
 refine HCL.out.mono ?_
 rintro e w6 ⟨hb6, pa, pc, F, rfl, hs6, hn6, hF6⟩
 have HB6 := tuck (bAfter HB5.out hb6)
 go_wp2_with fail
 exact HY.out _ pa pc F _ rfl HB6.out hs6 hn6 (fun g hg => ⟨Nat.le_trans HB5.out.size (hF6 g hg).1, (hF6 g hg).2⟩)
end Go.Proofs.Ytleijaegpfjnpaa
