/-
  LawT.
-/
import Derived.Test.YteeafpnjpcgfaaaGreatB01
import Derived.Test.YteeafpnjpcgfaaaGreatB06
import Derived.Test.YteeafpnjpcgfaaaGreatB07
import Derived.Test.YteeafpnjpcgfaaaGreatB08
import Derived.Test.YteeafpnjpcgfaaaGreatB17
import Derived.ProofKit
import Derived.StillTailTactics
import Derived.Test.YteeafpnjpcgfaaaGreatProg
import Derived.WalkSpells
namespace Go.Proofs.YteeafpnjpcgfaaaGreat
open Go.RowKit
def EqPost (w : World) (b : Bool) (e : Ending) (w' : World) : Prop := e = .returned (.bool b) ∧ Below w.heap.size w w'
theorem eqT_of {t u : Tm} (hk : ∀ (w : World) (v1 v2 : Value), SlIn w 0 t.kids v1 → SlIn w 0 u.kids v2 → Calls Tryz.prog 25 #[v1, v2] w (EqPost w (same t.kids u.kids))) :
  ∀ (w : World) (v1 v2 : Value), TmIn w 0 t v1 → TmIn w 0 u v2 → Calls Tryz.prog 12 #[v1, v2] w (EqPost w (same t u)) := by
 rintro w v1 v2 ⟨s1, rfl, h1⟩ ⟨s2, rfl, h2⟩
 rw [same_mk]
 generalize t.kind = k1 at *
 generalize u.kind = k2 at *
 generalize t.num = n1 at *
 generalize u.num = n2 at *
 have HK := tuck hk
 have H1 := tuck h1
 have H2 := tuck h2
 clear hk h1 h2
 generalize same t.kids u.kids = bb at *
 go_enter Tryz.func12, Tryz.ntmps12
 go_wp2_with (go_at_call 25; refine (HK.out _ _ _ (H1.out.below (below2 _ _ _)) (H2.out.below (below2 _ _ _))).mono ?_; rintro e w' ⟨rfl, hb⟩)
 ·go_ret
  exact ⟨ret_bool (by rw [same_of_ne ‹_›]; simp), below2 _ _ _⟩
 ·go_ret
  exact ⟨ret_bool (by rw [same_of_ne (a := n1) ‹_›]; simp), below2 _ _ _⟩
 ·go_ret
  exact ⟨ret_bool (by rw [same_of_eq (a := k1) ‹_›, same_of_eq (a := n1) ‹_›]; simpa using ‹(!bb) = true›), bAfter (below2 _ _ _) hb⟩
 ·go_ret
  exact ⟨ret_bool (by rw [same_of_eq (a := k1) ‹_›, same_of_eq (a := n1) ‹_›]; simpa using ‹(!bb) = false›), bAfter (below2 _ _ _) hb⟩
set_option maxRecDepth 100000 in
theorem eqS_any : ∀ (l : List Tm) (m : List Tm) (w : World) (v1 v2 : Value), SlIn w 0 l v1 → SlIn w 0 m v2 → Calls Tryz.prog 25 #[v1, v2] w (EqPost w (same l m)) := by
 intro l
 induction l using Tm.ind with
 | h l ih =>
 intro m w v1 v2 h1 h2
 obtain ⟨a, cap, b, o, rfl, hl, hp, hc⟩ := h1.open
 obtain ⟨a', cap', b', o', rfl, hl', hp', hc'⟩ := h2.open
 clear h1 h2
 have HI := tuck ih
 have HP := tuck hp
 have HP' := tuck hp'
 have HC := tuck hc
 have HC' := tuck hc'
 clear ih hp hp' hc hc'
 unfold maxLen at hl hl'
 by_cases hlen : l.length = m.length
 ·have HL := tuck hlen
  have hne : ((l.length : Int) != (m.length : Int)) = false := by simp [hlen]
  have hge : m.length ≤ l.length := by omega
  have hle : l.length ≤ m.length := by omega
  clear hlen
  go_enter Tryz.func25, Tryz.ntmps25
  go_wp2
  go_loopw [5] (fun i wr => ∃ k : Nat, k ≤ l.length ∧ i = .int .i64 k ∧ l.take k = m.take k ∧ Below w.heap.size w wr) (fun i _ => l.length - (intOf i).toNat)
  case atStart => exact ⟨0, Nat.zero_le _, rfl, by simp, Below.refl _ _⟩
  case round =>
   obtain ⟨k, hk, rfl, ht, hb⟩ := hrel
   by_cases hlt : k < l.length
   ·have hltm : k < m.length := by omega
    have hlti : ((k : Int) < (l.length : Int)) := by omega
    have hltj : ((k : Int) < (m.length : Int)) := by omega
    obtain ⟨rfl, _, hbw⟩ := HP.out (by intro e; rw [e] at hlt; simp at hlt)
    obtain ⟨rfl, _, hbw'⟩ := HP'.out (by intro e; rw [e] at hltm; simp at hltm)
    obtain ⟨s, c0, c1, c2, hs⟩ := HC.out k hlt
    obtain ⟨s', d0, d1, d2, hs'⟩ := HC'.out k hltm
    replace c0 := (hb.cell (p := ⟨b, o + k * 3, none⟩) hbw).trans c0
    replace c1 := (hb.cell (p := ⟨b, o + k * 3 + 1, none⟩) hbw).trans c1
    replace c2 := (hb.cell (p := ⟨b, o + k * 3 + 2, none⟩) hbw).trans c2
    replace d0 := (hb.cell (p := ⟨b', o' + k * 3, none⟩) hbw').trans d0
    replace d1 := (hb.cell (p := ⟨b', o' + k * 3 + 1, none⟩) hbw').trans d1
    replace d2 := (hb.cell (p := ⟨b', o' + k * 3 + 2, none⟩) hbw').trans d2
    have HB := tuck hb
    have HT := tuck ht
    have HS := tuck hs
    have HS' := tuck hs'
    have HI' := tuck (HI.out k hlt)
    clear hb ht hs hs' HI
    generalize hx : l[k] = x at *
    generalize hy : m[k] = y at *
    have HX := tuck hx
    have HY := tuck hy
    clear hx hy
    go_wp2_with fail
    go_still_tail 8, (by kernel_rfl)
    change wpList _ _ _ _ _ wr.drew
    go_wp2_with (go_at_call 12; refine (eqT_of (t := x) (u := y) (fun w v1 v2 g1 g2 => HI'.out _ w v1 v2 g1 g2) _ _ _ ⟨s, rfl, HS.out.below (HB.out.drew)⟩ ⟨s', rfl, HS'.out.below (HB.out.drew)⟩).mono ?_; rintro e w' ⟨rfl, hb'⟩)
    ·go_ret
     have h3 : same x y = false := by simpa using ‹(!same x y) = true›
     rw [same_false, ← HX.out, ← HY.out] at h3
     exact ⟨ret_bool (same_false.2 fun e => h3 (by simp [e])).symm, HB.out.drew.trans (hb'.mono HB.out.size)⟩
    ·go_roundw
     case rel =>
      refine ⟨k + 1, by omega, by go_num, ?_, HB.out.drew.trans (hb'.mono HB.out.size)⟩
      have h3 : same x y = true := by simpa using ‹(!same x y) = false›
      rw [same_iff, ← HX.out, ← HY.out] at h3
      rw [List.take_succ_eq_append_getElem hlt, List.take_succ_eq_append_getElem hltm, HT.out, h3]
     case measure => simp [intOf]; omega
   ·have hge2 : ¬ ((k : Int) < (l.length : Int)) := by omega
    have HB := tuck hb
    have HT := tuck ht
    clear hb ht
    go_wp2
    go_ret
    refine ⟨ret_bool ?_, HB.out⟩
    rw [eq_comm, same_iff]
    have hk : k = l.length := by omega
    have h3 := HT.out
    rw [hk] at h3
    exact take_all HL.out h3
 ·have HL := tuck hlen
  have hne : ((l.length : Int) != (m.length : Int)) = true := by simp; omega
  clear hlen
  go_enter Tryz.func25, Tryz.ntmps25
  go_wp2
  go_ret
  refine ⟨ret_bool ?_, Below.refl _ _⟩
  rw [eq_comm, same_false]
  intro e
  exact HL.out (by rw [e])
theorem eqT_any (t u : Tm) (w : World) (v1 v2 : Value) (h1 : TmIn w 0 t v1) (h2 : TmIn w 0 u v2) : Calls Tryz.prog 12 #[v1, v2] w (EqPost w (same t u)) :=
 eqT_of (fun w v1 v2 g1 g2 => eqS_any _ _ w v1 v2 g1 g2) w v1 v2 h1 h2
end Go.Proofs.YteeafpnjpcgfaaaGreat
namespace Go.Proofs.YteeafpnjpcgfaaaGreat
open Go.RowKit
def BoxAt (g : Nat) (k n : Int) (s : Value) (w : World) : Prop := g < w.heap.size ∧ w.cell? ⟨g, 0, none⟩ = some (.int .i64 k) ∧ w.cell? ⟨g, 1, none⟩ = some (.int .i64 n) ∧ w.cell? ⟨g, 2, none⟩ = some s
theorem BoxAt.below {g : Nat} {k n : Int} {s : Value} {w w' : World} (h : BoxAt g k n s w) (hb : Below w.heap.size w w') : BoxAt g k n s w' :=
 ⟨Nat.lt_of_lt_of_le h.1 hb.size, (hb.cell (p := ⟨g, 0, none⟩) h.1).trans h.2.1, (hb.cell (p := ⟨g, 1, none⟩) h.1).trans h.2.2.1, (hb.cell (p := ⟨g, 2, none⟩) h.1).trans h.2.2.2⟩
theorem BoxAt.new (w : World) (k n : Int) (s : Value) (T : TypeId) : BoxAt w.heap.size k n s (w.alloc (.cells #[.int .i64 k, .int .i64 n, s] T)) := by
 refine ⟨by simp, ?_, ?_, ?_⟩ <;> simp
end Go.Proofs.YteeafpnjpcgfaaaGreat
namespace Go.Proofs.YteeafpnjpcgfaaaGreat
open Go.RowKit
structure OnlyIn (F : List Nat) (w w' : World) : Prop where
 os : w'.os = w.os
 tape : w'.tape = w.tape
 output : w'.output = w.output
 size : w'.heap.size = w.heap.size
 block : ∀ i, i ∉ F → w'.heap[i]? = w.heap[i]?
 frozen : ∀ p, w'.frozen? p = w.frozen? p
theorem OnlyIn.refl (F : List Nat) (w : World) : OnlyIn F w w := ⟨rfl, rfl, rfl, rfl, fun _ _ => rfl, fun _ => rfl⟩
theorem OnlyIn.trans {F : List Nat} {a b c : World} (h : OnlyIn F a b) (k : OnlyIn F b c) : OnlyIn F a c :=
 ⟨k.os.trans h.os, k.tape.trans h.tape, k.output.trans h.output, k.size.trans h.size, fun i hi => (k.block i hi).trans (h.block i hi), fun p => (k.frozen p).trans (h.frozen p)⟩
theorem OnlyIn.mono {F G : List Nat} {a b : World} (h : OnlyIn F a b) (hs : ∀ i ∈ F, i ∈ G) : OnlyIn G a b := ⟨h.os, h.tape, h.output, h.size, fun i hi => h.block i (fun hf => hi (hs i hf)), h.frozen⟩
theorem OnlyIn.setCell {F : List Nat} {a : World} {p : Addr} (hp : p.block ∈ F) (u : Value) : OnlyIn F a (a.setCell p u) :=
 ⟨rfl, rfl, rfl, by simp [World.setCell], fun i hi => Below.heap_setCell a p u i (fun e => hi (by rw [e]; exact hp)), fun _ => World.frozen?_setCell _ _ _ _⟩
theorem OnlyIn.sameAt {F : List Nat} {a b : World} {g : Nat} (h : OnlyIn F a b) (hg : g ∉ F) : SameAt a b g := SameAt.of_block (h.block g hg)
theorem sameAt_set {w : World} {p : Addr} {u : Value} {g : Nat} (h : g ≠ p.block) : SameAt w (w.setCell p u) g := SameAt.of_block (Below.heap_setCell w p u g h)
theorem SameAt.trans {a b c : World} {g : Nat} (h : SameAt a b g) (k : SameAt b c g) : SameAt a c g := fun i => ⟨(k i).1.trans (h i).1, (k i).2.trans (h i).2⟩
theorem mark_step {wr : World} {l : List Tm} {k : Int} {q b : Nat} {F : List Nat} (hr : RowOwn wr (markL (l.take q) k ++ l.drop q) b 0 F) (hn : (b :: F).Nodup) (hq : q < l.length) :
  ∃ s G, wr.cell? ⟨b, q * 3, none⟩ = some (.int .i64 l[q].kind) ∧ wr.cell? ⟨b, q * 3 + 1, none⟩ = some (.int .i64 l[q].num) ∧ wr.cell? ⟨b, q * 3 + 2, none⟩ = some s ∧ SlOwn wr l[q].kids s G ∧ b ∉ G ∧ G.Nodup ∧
   ∀ (kq : Int) (w2 : World), kq = k + 2 * sizes (l.take q) → SlOwn w2 (markL l[q].kids (kq + 2)) s G → OnlyIn G ((wr.setCell ⟨b, q * 3, none⟩ (.int .i64 kq)).setCell ⟨b, q * 3 + 1, none⟩ (.int .i64 (kq + 1))) w2 →
    RowOwn w2 (markL (l.take (q + 1)) k ++ l.drop (q + 1)) b 0 F ∧ OnlyIn (b :: F) wr w2 := by
 rw [List.drop_eq_getElem_cons hq] at hr
 obtain ⟨F1, F2, rfl, h1, h2⟩ := RowOwn_append.1 hr
 rw [RowOwn] at h2
 obtain ⟨G, F3, rfl, h3, h4⟩ := h2
 have hlen : (markL (l.take q) k).length = q := by rw [markL_length, List.length_take]; omega
 rw [hlen, Nat.zero_add] at h3 h4
 obtain ⟨s, c0, c1, c2, hs⟩ := TmOwn_iff.1 h3
 rw [List.nodup_cons] at hn
 obtain ⟨hb, hn⟩ := hn
 rw [List.nodup_append] at hn
 obtain ⟨n1, n2, n3⟩ := hn
 rw [List.nodup_append] at n2
 obtain ⟨n4, n5, n6⟩ := n2
 have hbG : b ∉ G := fun h => hb (by simp [h])
 refine ⟨s, G, c0, c1, c2, hs, hbG, n4, fun kq w2 hk hs2 ho => ?_⟩
 have hW : OnlyIn (b :: G) wr w2 := ((OnlyIn.setCell (F := b :: G) (p := ⟨b, q * 3, none⟩) (by simp) _).trans (OnlyIn.setCell (p := ⟨b, q * 3 + 1, none⟩) (by simp) _)).trans (ho.mono (fun i hi => by simp [hi]))
 have hcell : ∀ i, i ≠ q * 3 → i ≠ q * 3 + 1 → w2.cell? ⟨b, i, none⟩ = wr.cell? ⟨b, i, none⟩ := fun i i0 i1 => by
  rw [((ho.sameAt hbG) i).1, World.cell?_setCell_other _ _ _ _ (fun e => i1 (by injection e with _ e; exact e.symm)), World.cell?_setCell_other _ _ _ _ (fun e => i0 (by injection e with _ e; exact e.symm))]
 refine ⟨?_, hW.mono (fun i hi => ?_)⟩
 ·rw [markL_take_succ l k q hq, ← hk, List.append_assoc, RowOwn_append]
  refine ⟨F1, G ++ F3, rfl, h1.keep (fun i hi => ?_) (fun g hg => hW.sameAt ?_), ?_⟩
  ·rw [hlen] at hi
   rw [Nat.zero_add]
   exact hcell i (by omega) (by omega)
  ·intro h
   rcases List.mem_cons.1 h with e | h
   ·exact hb (by rw [← e]; simp [hg])
   ·exact n3 g hg g (by simp [h]) rfl
  ·rw [List.singleton_append, RowOwn, hlen, Nat.zero_add]
   refine ⟨G, F3, rfl, ?_, h4.keep (fun i _ => hcell _ (by omega) (by omega)) (fun g hg => hW.sameAt ?_)⟩
   ·rw [Tm.mark_eq]
    refine TmOwn_iff.2 ⟨s, ?_, ?_, ?_, hs2⟩
    ·rw [((ho.sameAt hbG) _).1, World.cell?_setCell_other _ _ _ _ (fun e => by injection e with _ e; omega)]
     exact World.cell?_setCell_same wr _ _ c0
    ·rw [((ho.sameAt hbG) _).1]
     exact World.cell?_setCell_same _ _ _ ((World.cell?_setCell_other _ _ _ _ (fun e => by injection e with _ e; omega)).trans c1)
    ·rw [hcell _ (by omega) (by omega)]
     exact c2
   ·intro h
    rcases List.mem_cons.1 h with e | h
    ·exact hb (by rw [← e]; simp [hg])
    ·exact n6 g h g hg rfl
 ·rcases List.mem_cons.1 hi with e | h
  ·rw [e]; simp
  ·simp [h]
def MarkPost (F : List Nat) (l : List Tm) (v : Value) (k : Int) (w : World) (e : Ending) (w' : World) : Prop := e = .returned (.int .i64 (k + 2 * sizes l)) ∧ SlOwn w' (markL l k) v F ∧ OnlyIn F w w'
set_option maxRecDepth 100000 in
theorem markS_any : ∀ (l : List Tm) (F : List Nat) (k : Int) (w : World) (v : Value), 0 ≤ k → k + 2 * sizes l ≤ 4611686018427387904 → F.Nodup → SlOwn w l v F → Calls Tryz.prog 27 #[v, .int .i64 k] w (MarkPost F l v k w) := by
 intro l
 induction l using Tm.ind with
 | h l ih =>
 intro F k w v hk0 hk1 hnd hown
 obtain ⟨a, cap, b, F', rfl, hl, h5, h6⟩ := hown
 have HI := tuck ih
 have H5 := tuck h5
 have H6 := tuck h6
 have HND := tuck hnd
 have HL := tuck hl
 clear ih h5 h6 hnd
 unfold maxLen at hl
 go_enter Tryz.func27, Tryz.ntmps27
 go_wp2
 go_loopw [5, 1] (fun i c wr => ∃ (q : Nat) (kq : Int), q ≤ l.length ∧ i = .int .i64 q ∧ c = .int .i64 kq ∧ kq = k + 2 * sizes (l.take q) ∧ OnlyIn F w wr ∧ (l ≠ [] → RowOwn wr (markL (l.take q) k ++ l.drop q) b 0 F')) (fun i _ _ => l.length - (intOf i).toNat)
 case atStart => exact ⟨0, k, Nat.zero_le _, rfl, rfl, by simp [sizes], OnlyIn.refl _ _, fun hn => by rw [List.take_zero, markL, List.nil_append, List.drop_zero]; exact H6.out hn⟩
 case round =>
  obtain ⟨q, kq, hq, rfl, rfl, hkq, ho, hrow⟩ := hrel
  by_cases hlt : q < l.length
  ·have hlti : ((q : Int) < (l.length : Int)) := by omega
   have hne : l ≠ [] := by intro e; rw [e] at hlt; simp at hlt
   have hst := sizes_take_succ l q hlt
   have htr := sizes_take_le l (q + 1)
   rw [Tm.size_eq] at hst
   rcases H5.out with h | ⟨rfl, hF, hfz⟩
   ·exact absurd h.1 hne
   have hnd := HND.out
   rw [hF] at hnd
   obtain ⟨s, G, c0, c1, c2, hs, hbG, hG, hnext⟩ := mark_step (hrow hne) hnd hlt
   obtain ⟨sa, sc, rfl⟩ := hs.form
   have f0 : wr.frozen? ⟨b, q * 3, none⟩ = false := (ho.frozen _).trans (hfz _)
   have f1 : wr.frozen? ⟨b, q * 3 + 1, none⟩ = false := (ho.frozen _).trans (hfz _)
   have hbw : b < wr.heap.size := World.block_lt_of_cell? wr _ c0
   have hk2 : 0 ≤ kq := by omega
   have hk3 : kq + 2 + 2 * (sizes l[q].kids : Int) ≤ 4611686018427387904 := by omega
   have HS := tuck (hs.keep (w' := (wr.setCell ⟨b, q * 3, none⟩ (.int .i64 kq)).setCell ⟨b, q * 3 + 1, none⟩ (.int .i64 (kq + 1))) (fun g hg => (sameAt_set (by intro e; have e' : g = b := e; rw [e'] at hg; exact hbG hg)).trans (sameAt_set (by intro e; have e' : g = b := e; rw [e'] at hg; exact hbG hg))))
   have e2 : kq + 2 = kq + 1 + 1 := by omega
   have hnx := fun w2 => hnext kq w2 hkq
   rw [e2] at hk3
   simp only [e2] at hnx
   clear e2
   have HNX := tuck hnx
   have HI' := tuck (HI.out q hlt)
   have HG := tuck hG
   have HO := tuck ho
   have HKQ := tuck hkq
   have HST := tuck hst
   have HF := tuck hF
   clear hs hnext hnx HI hG ho hkq hst htr hnd hF hfz hrow hbG hne
   generalize l[q] = x at *
   go_wp2_with (go_at_call 27; refine (HI'.out G (kq + 1 + 1) _ _ (by omega) hk3 HG.out HS.out).mono ?_; rintro e w2 ⟨rfl, hs2, ho2⟩)
   go_roundw
   case rel =>
    have h1 := HNX.out w2 hs2 ho2
    have h2 := HKQ.out
    have h3 := HST.out
    exact ⟨q + 1, _, by omega, by go_num, rfl, by omega, HO.out.trans (by rw [HF.out]; exact h1.2), fun _ => h1.1⟩
   case measure => simp [intOf]; omega
  ·have hge2 : ¬ ((q : Int) < (l.length : Int)) := by omega
   have HO := tuck ho
   have HR := tuck hrow
   have HKQ := tuck hkq
   clear ho hrow hkq
   go_wp2
   go_ret
   have h1 := HKQ.out
   have h2 := HR.out
   rw [List.take_of_length_le (by omega)] at h1 h2
   rw [List.drop_of_length_le (by omega), List.append_nil] at h2
   refine ⟨ret_int h1, ⟨a, cap, b, F', by rw [markL_length], by rw [markL_length]; exact HL.out, ?_, fun hn => h2 (fun e => hn (by rw [e, markL]))⟩, HO.out⟩
   rcases H5.out with h | ⟨e1, e2, e3⟩
   ·exact Or.inl ⟨by rw [h.1, markL], h.2⟩
   ·exact Or.inr ⟨e1, e2, fun i => (HO.out.frozen _).trans (e3 i)⟩
structure But (F : List Nat) (w w' : World) : Prop where
 os : w'.os = w.os
 tape : w'.tape = w.tape
 output : w'.output = w.output
 size : w.heap.size ≤ w'.heap.size
 block : ∀ i, i < w.heap.size → i ∉ F → w'.heap[i]? = w.heap[i]?
theorem But.below {F : List Nat} {a b w : World} {B : Nat} (h : But F a b) (hw : Below B w a) (hB : B ≤ a.heap.size) (hF : ∀ g ∈ F, B ≤ g) : Below B w b :=
 ⟨h.os.trans hw.os, h.tape.trans hw.tape, h.output.trans hw.output, Nat.le_trans hw.size h.size, fun i hi => (h.block i (by omega) (fun hf => by have := hF i hf; omega)).trans (hw.block i hi)⟩
def MarkTPost (F : List Nat) (l : List Tm) (s : Value) (k : Int) (w : World) (e : Ending) (w' : World) : Prop := e = .returned (.int .i64 (k + 2 * sizes l)) ∧ SlOwn w' (markL l k) s F ∧ But F w w'
theorem markT_any (t : Tm) (F : List Nat) (k : Int) (w : World) (s : Value) (h0 : 0 ≤ k) (h1 : k + 2 * sizes t.kids ≤ 4611686018427387904) (hn : F.Nodup) (hF : ∀ g ∈ F, g < w.heap.size) (h : SlOwn w t.kids s F) :
  Calls Tryz.prog 26 #[.agg #[.int .i64 t.kind, .int .i64 t.num, s], .int .i64 k] w (MarkTPost F t.kids s k w) := by
 obtain ⟨a, cap, rfl⟩ := h.form
 have HK : Hid (Calls Tryz.prog 27 #[.slice a t.kids.length cap, .int .i64 k] (w.alloc (.cells #[.int .i64 t.kind, .int .i64 t.num, .slice a t.kids.length cap] 29)) (MarkPost F t.kids (.slice a t.kids.length cap) k (w.alloc (.cells #[.int .i64 t.kind, .int .i64 t.num, .slice a t.kids.length cap] 29)))) :=
  markS_any t.kids F k _ _ h0 h1 hn (h.keep (fun g hg => SameAt.of_block (Below.heap_alloc _ _ _ (hF g hg))))
 clear h hF hn h1
 go_enter Tryz.func26, Tryz.ntmps26
 go_wp2_with (go_at_call 27; refine HK.out.mono ?_; rintro e w2 ⟨rfl, hs2, ho2⟩)
 go_ret
 exact ⟨rfl, hs2, ho2.os, ho2.tape, ho2.output, by rw [ho2.size]; simp, fun i hi hf => (ho2.block i hf).trans (Below.heap_alloc _ _ _ hi)⟩
end Go.Proofs.YteeafpnjpcgfaaaGreat
namespace Go.Proofs.YteeafpnjpcgfaaaGreat
open Go.RowKit
def IntPost' (w : World) (n : Int) (e : Ending) (w' : World) : Prop := e = .returned (.int .i64 n) ∧ Below w.heap.size w w'
set_option maxRecDepth 100000 in
theorem heldS_any : ∀ (l : List Tm) (B : Nat) (k : Int) (w : World) (v : Value), 0 ≤ k → k + 2 * sizes l ≤ 4611686018427387904 → SlIn w B (markL l k) v →
  Calls Tryz.prog 28 #[v, .int .i64 k] w fun e w' => e = .returned (.int .i64 (k + 2 * sizes l)) ∧ w = w' := by
 intro l
 induction l using Tm.ind with
 | h l ih =>
 intro B k w v hk0 hk1 hin
 obtain ⟨a, cap, b, o, rfl, hl, hp, hc⟩ := hin.open
 clear hin
 have HI := tuck ih
 have HP := tuck hp
 have HC : Hid (∀ i (hi : i < l.length), ∃ s, w.cell? ⟨b, o + i * 3, none⟩ = some (.int .i64 (k + 2 * sizes (l.take i))) ∧ w.cell? ⟨b, o + i * 3 + 1, none⟩ = some (.int .i64 (k + 2 * sizes (l.take i) + 1)) ∧ w.cell? ⟨b, o + i * 3 + 2, none⟩ = some s ∧ SlIn w B (markL l[i].kids (k + 2 * sizes (l.take i) + 1 + 1)) s) := by
  intro i hi
  have h := hc i (by rw [markL_length]; exact hi)
  rw [markL_get l k i hi, Tm.mark_eq] at h
  obtain ⟨s, c0, c1, c2, hs⟩ := h
  refine ⟨s, c0, c1, c2, ?_⟩
  rw [show k + 2 * (sizes (l.take i) : Int) + 1 + 1 = k + 2 * (sizes (l.take i) : Int) + 2 by omega]
  exact hs
 clear ih hp hc
 rw [markL_length] at hl ⊢
 have HNE : Hid (markL l k = [] → l.length = 0) := fun e => by rw [← markL_length l k, e]; rfl
 unfold maxLen at hl
 go_enter Tryz.func28, Tryz.ntmps28
 go_wp2
 go_loop [5, 1] (fun i c => ∃ (q : Nat) (kq : Int), q ≤ l.length ∧ i = .int .i64 q ∧ c = .int .i64 kq ∧ kq = k + 2 * sizes (l.take q)) (fun i _ => l.length - (intOf i).toNat)
 case atStart => exact ⟨0, k, Nat.zero_le _, rfl, rfl, by simp [sizes]⟩
 case round =>
  obtain ⟨q, kq, hq, rfl, rfl, hkq⟩ := hrel
  by_cases hlt : q < l.length
  ·have hlti : ((q : Int) < (l.length : Int)) := by omega
   have hst := sizes_take_succ l q hlt
   have htr := sizes_take_le l (q + 1)
   rw [Tm.size_eq] at hst
   obtain ⟨rfl, _, hbw⟩ := HP.out (by intro e; have := HNE.out e; omega)
   obtain ⟨s, c0, c1, c2, hs⟩ := HC.out q hlt
   rw [← hkq] at c0 c1 hs
   have hk2 : 0 ≤ kq := by omega
   have hk3 : kq + 1 + 1 + 2 * (sizes l[q].kids : Int) ≤ 4611686018427387904 := by omega
   have HS := tuck hs
   have HI' := tuck (HI.out q hlt)
   have HKQ := tuck hkq
   have HST := tuck hst
   clear hs HI hkq hst htr
   generalize l[q] = x at *
   go_wp2_with (go_at_call 28; refine (HI'.out B (kq + 1 + 1) _ _ (by omega) hk3 HS.out).mono ?_; rintro e w2 ⟨rfl, rfl⟩)
   go_round
   case rel =>
    have h2 := HKQ.out
    have h3 := HST.out
    exact ⟨q + 1, _, by omega, by go_num, rfl, by omega⟩
   case measure => simp [intOf]; omega
  ·have hge2 : ¬ ((q : Int) < (l.length : Int)) := by omega
   have HKQ := tuck hkq
   clear hkq
   go_wp2
   go_ret
   have h1 := HKQ.out
   rw [List.take_of_length_le (by omega)] at h1
   exact ⟨ret_int h1, rfl⟩
end Go.Proofs.YteeafpnjpcgfaaaGreat
namespace Go.Proofs.YteeafpnjpcgfaaaGreat
open Go.RowKit
structure Bel (w a : World) : Prop where
 be : Below w.heap.size w a
theorem Bel.below {w a b : World} (h : Bel w a) (hb : Below a.heap.size a b) : Bel w b := ⟨bAfter h.be hb⟩
theorem Bel.but {F : List Nat} {w a b : World} (h : Bel w a) (hb : But F a b) (hF : ∀ g ∈ F, w.heap.size ≤ g) : Bel w b := ⟨hb.below h.be h.be.size hF⟩
theorem BoxAt.but {F : List Nat} {g : Nat} {k n : Int} {s : Value} {a b : World} (h : BoxAt g k n s a) (hb : But F a b) (hF : g ∉ F) : BoxAt g k n s b := by
 have e := hb.block g h.1 hF
 refine ⟨?_, (World.cell?_of_block e).trans h.2.1, (World.cell?_of_block e).trans h.2.2.1, (World.cell?_of_block e).trans h.2.2.2⟩
 exact Nat.lt_of_lt_of_le h.1 hb.size
structure OwnB (lo hi : Nat) (l : List Tm) (v : Value) (F : List Nat) (w : World) : Prop where
 own : SlOwn w l v F
 nd : F.Nodup
 ge : ∀ g ∈ F, lo ≤ g
 lt : ∀ g ∈ F, g < hi
 hi : hi ≤ w.heap.size
theorem OwnB.below {lo hi : Nat} {l : List Tm} {v : Value} {F : List Nat} {a b : World} (h : OwnB lo hi l v F a) (hb : Below a.heap.size a b) : OwnB lo hi l v F b :=
 ⟨h.own.below (fun g hg => Nat.lt_of_lt_of_le (h.lt g hg) h.hi) hb, h.nd, h.ge, h.lt, Nat.le_trans h.hi hb.size⟩
theorem OwnB.but {lo hi : Nat} {l : List Tm} {v : Value} {F G : List Nat} {a b : World} (h : OwnB lo hi l v F a) (hb : But G a b) (hF : ∀ g ∈ F, g ∉ G) : OwnB lo hi l v F b :=
 ⟨h.own.keep fun g hg => SameAt.of_block (hb.block g (Nat.lt_of_lt_of_le (h.lt g hg) h.hi) (hF g hg)), h.nd, h.ge, h.lt, Nat.le_trans h.hi hb.size⟩
theorem OwnB.sl {lo hi : Nat} {l : List Tm} {v : Value} {F : List Nat} {w : World} (h : OwnB lo hi l v F w) : SlIn w 0 l v := h.own.sl fun _ _ => Nat.zero_le _
theorem OwnB.lts {lo hi : Nat} {l : List Tm} {v : Value} {F : List Nat} {w : World} (h : OwnB lo hi l v F w) : ∀ g ∈ F, g < w.heap.size := fun g hg => Nat.lt_of_lt_of_le (h.lt g hg) h.hi
theorem OwnB.of {w0 w : World} {l : List Tm} {v : Value} {F : List Nat} (hs : SlOwn w l v F) (hn : F.Nodup) (hF : ∀ g ∈ F, w0.heap.size ≤ g ∧ g < w.heap.size) : OwnB w0.heap.size w.heap.size l v F w :=
 ⟨hs, hn, fun g hg => (hF g hg).1, fun g hg => (hF g hg).2, Nat.le_refl _⟩
theorem OwnB.marked {lo hi : Nat} {l m : List Tm} {v : Value} {F : List Nat} {a b : World} (h : OwnB lo hi l v F a) (hs : SlOwn b m v F) (hz : a.heap.size ≤ b.heap.size) : OwnB lo hi m v F b := ⟨hs, h.nd, h.ge, h.lt, Nat.le_trans h.hi hz⟩
theorem holdT {w w1 w' : World} {g g5 : Nat} {k n k5 n5 : Int} {s s5 : Value} (h : Below w.heap.size w w1 ∧ (g < w1.heap.size ∧ w1.cell? ⟨g, 0, none⟩ = some (.int .i64 k) ∧ w1.cell? ⟨g, 1, none⟩ = some (.int .i64 n) ∧ w1.cell? ⟨g, 2, none⟩ = some s) ∧
   (g5 < w1.heap.size ∧ w1.cell? ⟨g5, 0, none⟩ = some (.int .i64 k5) ∧ w1.cell? ⟨g5, 1, none⟩ = some (.int .i64 n5) ∧ w1.cell? ⟨g5, 2, none⟩ = some s5)) (hb : Below w1.heap.size w1 w') :
  Below w.heap.size w w' ∧ (g < w'.heap.size ∧ w'.cell? ⟨g, 0, none⟩ = some (.int .i64 k) ∧ w'.cell? ⟨g, 1, none⟩ = some (.int .i64 n) ∧ w'.cell? ⟨g, 2, none⟩ = some s) ∧
   (g5 < w'.heap.size ∧ w'.cell? ⟨g5, 0, none⟩ = some (.int .i64 k5) ∧ w'.cell? ⟨g5, 1, none⟩ = some (.int .i64 n5) ∧ w'.cell? ⟨g5, 2, none⟩ = some s5) :=
 ⟨bAfter h.1 hb, BoxAt.below h.2.1 hb, BoxAt.below h.2.2 hb⟩
theorem hold_be {w w1 : World} {q : Prop} (h : Below w.heap.size w w1 ∧ q) : Below w.heap.size w w1 := h.1
theorem VarAt.set3 {g : Nat} {k n k' n' : Int} {s s' : Value} {w : World} (h : VarAt g k n s w) : VarAt g k' n' s' (((w.setCell ⟨g, 0, none⟩ (.int .i64 k')).setCell ⟨g, 1, none⟩ (.int .i64 n')).setCell ⟨g, 2, none⟩ s') := by
 have h0 : VarAt g k' n s (w.setCell ⟨g, 0, none⟩ (.int .i64 k')) := by
  have := block_set h 0 (.int .i64 k')
  simpa [VarAt] using this
 have h1 : VarAt g k' n' s ((w.setCell ⟨g, 0, none⟩ (.int .i64 k')).setCell ⟨g, 1, none⟩ (.int .i64 n')) := by
  have := block_set h0 1 (.int .i64 n')
  simpa [VarAt] using this
 have := block_set h1 2 s'
 simpa [VarAt] using this
theorem VarAt.four {g : Nat} {k n : Int} {s : Value} {w : World} (h : VarAt g k n s w) : g < w.heap.size ∧ w.cell? ⟨g, 0, none⟩ = some (.int .i64 k) ∧ w.cell? ⟨g, 1, none⟩ = some (.int .i64 n) ∧ w.cell? ⟨g, 2, none⟩ = some s := ⟨h.facts.1, h.facts.2.1, h.facts.2.2.1, h.facts.2.2.2.1⟩
end Go.Proofs.YteeafpnjpcgfaaaGreat
