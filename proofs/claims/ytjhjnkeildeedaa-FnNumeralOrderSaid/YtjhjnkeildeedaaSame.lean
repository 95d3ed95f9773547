/-
  impl.sameRoot, sameTree, TermSame: two terms are held against each other; TermSame where the first one is valid or has no operands.
-/
import Derived.Test.YtjhjnkeildeedaaImplB
import Derived.Carry
namespace Go.Proofs.Ytjhjnkeildeedaa
open Go.RowKit

/-- The roots are alike. -/
noncomputable def rootSame (t u : Tm) : Bool := tr (t.kind = u.kind ∧ t.num = u.num ∧ t.kids.length = u.kids.length)

theorem sameRoot_any (t u : Tm) (a a' : Option Addr) (c c' : Nat) (w : World) : Calls Try.prog 65 #[.agg #[.int .i64 t.kind, .int .i64 t.num, .slice a t.kids.length c], .agg #[.int .i64 u.kind, .int .i64 u.num, .slice a' u.kids.length c']] w (BoolPost w (rootSame t u)) := by
  by_cases h1 : t.kind = u.kind
  rotate_left
  · rw [show rootSame t u = false from tr_not fun h => h1 h.1]
    have g1 : (t.kind == u.kind) = false := by simpa using h1
    go_enter Try.func65, Try.ntmps65
    go_wp2
    go_ret
    exact ⟨rfl, below2 _ _ _⟩
  have g1 : (t.kind == u.kind) = true := by simpa using h1
  by_cases h2 : t.num = u.num
  rotate_left
  · rw [show rootSame t u = false from tr_not fun h => h2 h.2.1]
    have g2 : (t.num == u.num) = false := by simpa using h2
    clear h1 h2
    go_enter Try.func65, Try.ntmps65
    go_wp2
    go_ret
    exact ⟨rfl, below2 _ _ _⟩
  have g2 : (t.num == u.num) = true := by simpa using h2
  have HR : Hid (rootSame t u = ((t.kids.length : Int) == (u.kids.length : Int))) := by
    show _ = _
    rw [Bool.eq_iff_iff, rootSame, tr_iff, beq_iff_eq]
    exact ⟨fun h => by omega, fun h => ⟨h1, h2, by omega⟩⟩
  generalize rootSame t u = r at *
  clear h1 h2
  go_enter Try.func65, Try.ntmps65
  go_wp2
  go_ret
  exact ⟨ret_bool HR.out.symm, below2 _ _ _⟩

theorem same_root {t u : Tm} : same t u = (rootSame t u && same t.kids u.kids) := by
  rw [same_mk, Bool.eq_iff_iff]
  simp only [Bool.and_eq_true, same_iff, rootSame, tr_iff]
  constructor
  · rintro ⟨⟨h1, h2⟩, h3⟩; exact ⟨⟨h1, h2, by rw [h3]⟩, h3⟩
  · rintro ⟨⟨h1, h2, _⟩, h3⟩; exact ⟨⟨h1, h2⟩, h3⟩

set_option maxRecDepth 100000 in
theorem sameTree_any : ∀ (l : List Tm) (k n : Int) (u : Tm) (w : World) (s v2 : Value), SlIn w 0 l s → TmIn w 0 u v2 →
    Calls Try.prog 47 #[.agg #[.int .i64 k, .int .i64 n, s], v2] w (BoolPost w (same (.mk k n l) u)) := by
  intro l
  induction l using Tm.ind with
  | h l ih =>
  intro k n u w v1 v2 h1 h2
  obtain ⟨s2, rfl, h2⟩ := h2
  obtain ⟨a, cap, b, o, rfl, hl, hp, hc⟩ := h1.open
  obtain ⟨a', cap', b', o', rfl, hl', hp', hc'⟩ := h2.open
  clear h1 h2
  have HI := tuck ih
  have HP := tuck hp
  have HP' := tuck hp'
  have HC := tuck hc
  have HC' := tuck hc'
  have HR := tuck (sameRoot_any (.mk k n l) u a a' cap cap')
  clear ih hp hp' hc hc'
  unfold maxLen at hl hl'
  rw [same_root]
  change Hid (∀ w, Calls Try.prog 65 #[.agg #[.int .i64 k, .int .i64 n, .slice a l.length cap], _] w _) at HR
  change Calls _ _ _ _ (BoolPost w (rootSame _ u && same l u.kids))
  by_cases hr : rootSame (.mk k n l) u = true
  rotate_left
  · have hr' : rootSame (.mk k n l) u = false := by simpa using hr
    rw [hr'] at HR ⊢
    clear hr hr'
    go_enter Try.func47, Try.ntmps47
    go_wp2_with (go_at_call 65; refine (HR.out _).mono ?_; rintro e w1 ⟨rfl, hb1⟩; have HB1 := tuck hb1; clear hb1)
    go_ret
    exact ⟨rfl, bAfter (below2 _ _ _) HB1.out⟩
  rw [hr] at HR ⊢
  have hlen : l.length = u.kids.length := (tr_iff.1 hr).2.2
  clear hr
  rw [Bool.true_and]
  have HL := tuck hlen
  clear hlen
  generalize u.kids = m at *
  generalize u.kind = uk at *
  generalize u.num = un at *
  have hge : m.length ≤ l.length := Nat.le_of_eq HL.out.symm
  have hle : l.length ≤ m.length := Nat.le_of_eq HL.out
  go_enter Try.func47, Try.ntmps47
  go_wp2_with (go_at_call 65; refine (HR.out _).mono ?_; rintro e w1 ⟨rfl, hb1⟩; obtain ⟨oc, of⟩ := old_cells hb1; have hz1 : w.heap.size + 1 < w1.heap.size := (by have := hb1.size; simp at this; omega); have HB1 := tuck hb1; clear hb1)
  have hx : w1.cell? ⟨w.heap.size, 2, none⟩ = some (.slice a l.length cap) := by rw [oc _ _ (by simp; omega)]; go_simp
  have hy : w1.cell? ⟨w.heap.size + 1, 2, none⟩ = some (.slice a' m.length cap') := by rw [oc _ _ (by simp)]; go_simp
  have HBX := tuck hx
  have HBY := tuck hy
  have HB0 := tuck (bAfter (below2 _ _ _) HB1.out)
  clear oc of hx hy HB1 HR
  go_loopw [13] (fun i wr => ∃ q : Nat, q ≤ l.length ∧ i = .int .i64 q ∧ l.take q = m.take q ∧ Below w1.heap.size w1 wr) (fun i _ => l.length - (intOf i).toNat)
  case atStart => exact ⟨0, Nat.zero_le _, rfl, by simp, Below.refl _ _⟩
  case round =>
    obtain ⟨q, hq, rfl, ht, hb⟩ := hrel
    have hx : wr.cell? ⟨w.heap.size, 2, none⟩ = some (.slice a l.length cap) := (hb.cell (p := ⟨w.heap.size, 2, none⟩) (by show w.heap.size < _; omega)).trans HBX.out
    have hy : wr.cell? ⟨w.heap.size + 1, 2, none⟩ = some (.slice a' m.length cap') := (hb.cell (p := ⟨w.heap.size + 1, 2, none⟩) hz1).trans HBY.out
    by_cases hlt : q < l.length
    · have hltm : q < m.length := by omega
      have hlti : ((q : Int) < (l.length : Int)) := by omega
      have hltj : ((q : Int) < (m.length : Int)) := by omega
      obtain ⟨rfl, _, hbw⟩ := HP.out (by intro e; rw [e] at hlt; simp at hlt)
      obtain ⟨rfl, _, hbw'⟩ := HP'.out (by intro e; rw [e] at hltm; simp at hltm)
      obtain ⟨s, c0, c1, c2, hs⟩ := HC.out q hlt
      obtain ⟨s', d0, d1, d2, hs'⟩ := HC'.out q hltm
      have hbb := bAfter HB0.out hb
      replace c0 := (hbb.cell (p := ⟨b, o + q * 3, none⟩) hbw).trans c0
      replace c1 := (hbb.cell (p := ⟨b, o + q * 3 + 1, none⟩) hbw).trans c1
      replace c2 := (hbb.cell (p := ⟨b, o + q * 3 + 2, none⟩) hbw).trans c2
      replace d0 := (hbb.cell (p := ⟨b', o' + q * 3, none⟩) hbw').trans d0
      replace d1 := (hbb.cell (p := ⟨b', o' + q * 3 + 1, none⟩) hbw').trans d1
      replace d2 := (hbb.cell (p := ⟨b', o' + q * 3 + 2, none⟩) hbw').trans d2
      have HB := tuck hb
      have HBB := tuck hbb
      have HT := tuck ht
      have HS := tuck hs
      have HS' := tuck hs'
      have HI' := tuck (HI.out q hlt)
      clear hb hbb ht hs hs' HI
      generalize hx1 : l[q] = x at *
      generalize hy1 : m[q] = y at *
      have HX := tuck hx1
      have HY := tuck hy1
      clear hx1 hy1
      go_wp2_with fail
      go_still_tail 10, (by kernel_rfl)
      change wpList _ _ _ _ _ wr.drew
      go_wp2_with (go_at_call 47; refine (HI'.out x.kind x.num y _ _ _ (HS.out.below (HBB.out.drew)) ⟨s', rfl, HS'.out.below (HBB.out.drew)⟩).mono ?_; rintro e w' ⟨rfl, hb'⟩)
      · go_ret
        have h3 : same (.mk x.kind x.num x.kids) y = false := by simpa using ‹(!same (.mk x.kind x.num x.kids) y) = true›
        rw [Tm.eta, same_false, ← HX.out, ← HY.out] at h3
        exact ⟨ret_bool (same_false.2 fun e => h3 (by simp [e])).symm, HBB.out.drew.trans (hb'.mono HBB.out.size)⟩
      · have h3 : same (.mk x.kind x.num x.kids) y = true := by simpa using ‹(!same (.mk x.kind x.num x.kids) y) = false›
        rw [Tm.eta, same_iff, ← HX.out, ← HY.out] at h3
        go_roundw
        case rel =>
          refine ⟨q + 1, by omega, by go_num, ?_, HB.out.drew.trans (hb'.mono HB.out.size)⟩
          rw [List.take_succ_eq_append_getElem hlt, List.take_succ_eq_append_getElem hltm, HT.out, h3]
        case measure => simp [intOf]; omega
    · have hge2 : ¬ ((q : Int) < (l.length : Int)) := by omega
      have HBB := tuck (bAfter HB0.out hb)
      have HT := tuck ht
      clear hb ht
      go_wp2
      go_ret
      have hk : q = l.length := by omega
      have h3 := HT.out
      rw [hk] at h3
      exact ⟨ret_bool (same_iff.2 (take_all HL.out h3)).symm, HBB.out⟩

def sliceLen : Value → Nat | .slice _ n _ => n | _ => 0

set_option maxRecDepth 100000 in
/-- Of a term without operands. -/
theorem sameGraph_leaf (t u : Tm) (a a' : Option Addr) (c c' : Nat) (w : World) (h0 : t.kids.length = 0) : Calls Try.prog 48 #[.agg #[.int .i64 t.kind, .int .i64 t.num, .slice a t.kids.length c], .agg #[.int .i64 u.kind, .int .i64 u.num, .slice a' u.kids.length c']] w (BoolPost w (rootSame t u)) := by
  have HR := tuck (sameRoot_any t u a a' c c')
  have HZ := tuck h0
  have hz : ((t.kids.length : Int) == 0) = true := by simp [h0]
  clear h0
  generalize rootSame t u = r at *
  generalize t.kind = k1 at *
  generalize t.num = n1 at *
  generalize u.kind = k2 at *
  generalize u.num = n2 at *
  generalize t.kids.length = l1 at *
  generalize u.kids.length = l2 at *
  have hmm := @run_makeMap Try.prog
  go_enter Try.func48, Try.ntmps48
  go_wp2_with fail
  have hb0 : Below w.heap.size w ((((w.alloc (.cells #[.int .i64 k1, .int .i64 n1, .slice a l1 c] 32)).alloc (.cells #[.int .i64 k2, .int .i64 n2, .slice a' l2 c'] 32)).alloc (.map #[] 0)).alloc (.cells #[.int .i64 k1, .int .i64 n1, .slice a l1 c, .int .i64 k2, .int .i64 n2, .slice a' l2 c'] 77)) := (((below1 w _).alloc (by simp) _).alloc (by simp; omega) _).alloc (by simp; omega) _
  have q0 : ((((w.alloc (.cells #[.int .i64 k1, .int .i64 n1, .slice a l1 c] 32)).alloc (.cells #[.int .i64 k2, .int .i64 n2, .slice a' l2 c'] 32)).alloc (.map #[] 0)).alloc (.cells #[.int .i64 k1, .int .i64 n1, .slice a l1 c, .int .i64 k2, .int .i64 n2, .slice a' l2 c'] 77)).cell? ⟨w.heap.size + 1 + 1 + 1, 0, none⟩ = some (.int .i64 k1) := by go_simp
  have q1 : ((((w.alloc (.cells #[.int .i64 k1, .int .i64 n1, .slice a l1 c] 32)).alloc (.cells #[.int .i64 k2, .int .i64 n2, .slice a' l2 c'] 32)).alloc (.map #[] 0)).alloc (.cells #[.int .i64 k1, .int .i64 n1, .slice a l1 c, .int .i64 k2, .int .i64 n2, .slice a' l2 c'] 77)).cell? ⟨w.heap.size + 1 + 1 + 1, 1, none⟩ = some (.int .i64 n1) := by go_simp
  have q2 : ((((w.alloc (.cells #[.int .i64 k1, .int .i64 n1, .slice a l1 c] 32)).alloc (.cells #[.int .i64 k2, .int .i64 n2, .slice a' l2 c'] 32)).alloc (.map #[] 0)).alloc (.cells #[.int .i64 k1, .int .i64 n1, .slice a l1 c, .int .i64 k2, .int .i64 n2, .slice a' l2 c'] 77)).cell? ⟨w.heap.size + 1 + 1 + 1, 2, none⟩ = some (.slice a l1 c) := by go_simp
  have q3 : ((((w.alloc (.cells #[.int .i64 k1, .int .i64 n1, .slice a l1 c] 32)).alloc (.cells #[.int .i64 k2, .int .i64 n2, .slice a' l2 c'] 32)).alloc (.map #[] 0)).alloc (.cells #[.int .i64 k1, .int .i64 n1, .slice a l1 c, .int .i64 k2, .int .i64 n2, .slice a' l2 c'] 77)).cell? ⟨w.heap.size + 1 + 1 + 1, 3, none⟩ = some (.int .i64 k2) := by go_simp
  have q4 : ((((w.alloc (.cells #[.int .i64 k1, .int .i64 n1, .slice a l1 c] 32)).alloc (.cells #[.int .i64 k2, .int .i64 n2, .slice a' l2 c'] 32)).alloc (.map #[] 0)).alloc (.cells #[.int .i64 k1, .int .i64 n1, .slice a l1 c, .int .i64 k2, .int .i64 n2, .slice a' l2 c'] 77)).cell? ⟨w.heap.size + 1 + 1 + 1, 4, none⟩ = some (.int .i64 n2) := by go_simp
  have q5 : ((((w.alloc (.cells #[.int .i64 k1, .int .i64 n1, .slice a l1 c] 32)).alloc (.cells #[.int .i64 k2, .int .i64 n2, .slice a' l2 c'] 32)).alloc (.map #[] 0)).alloc (.cells #[.int .i64 k1, .int .i64 n1, .slice a l1 c, .int .i64 k2, .int .i64 n2, .slice a' l2 c'] 77)).cell? ⟨w.heap.size + 1 + 1 + 1, 5, none⟩ = some (.slice a' l2 c') := by go_simp
  generalize ((((w.alloc (.cells #[.int .i64 k1, .int .i64 n1, .slice a l1 c] 32)).alloc (.cells #[.int .i64 k2, .int .i64 n2, .slice a' l2 c'] 32)).alloc (.map #[] 0)).alloc (.cells #[.int .i64 k1, .int .i64 n1, .slice a l1 c, .int .i64 k2, .int .i64 n2, .slice a' l2 c'] 77)) = W0 at *
  have HB0 := tuck hb0
  have HQ := tuck (And.intro q0 (And.intro q1 (And.intro q2 (And.intro q3 (And.intro q4 q5)))))
  clear hb0 q0 q1 q2 q3 q4 q5 hmm
  go_loopw [6] (fun v wr => (v = .slice (some ⟨w.heap.size + 1 + 1 + 1, 0, none⟩) 1 1 ∧ wr = W0) ∨ (v = .slice (some ⟨w.heap.size + 1 + 1 + 1, 0, none⟩) 0 1 ∧ r = true ∧ Below w.heap.size w wr)) (fun v _ => sliceLen v)
  case atStart => exact Or.inl ⟨rfl, rfl⟩
  case round =>
    rcases hrel with ⟨rfl, rfl⟩ | ⟨rfl, hr, hb⟩
    · obtain ⟨q0, q1, q2, q3, q4, q5⟩ := HQ.out
      go_wp2_with (go_at_call 65; refine (HR.out _).mono ?_; rintro e w1 ⟨rfl, hb1⟩; obtain ⟨oc, of⟩ := old_cells hb1; have hz1 : wr.heap.size < w1.heap.size := (by have := hb1.size; simp at this; omega); have HB1 := tuck hb1; clear hb1)
      · go_ret
        have h : (!r) = true := by assumption
        have h2 : r = false := by simpa using h
        exact ⟨ret_bool h2.symm, bAfter (bAfter HB0.out (below1 _ _)) HB1.out⟩
      · have h : (!r) = false := by assumption
        have h2 : r = true := by simpa using h
        have H2 := tuck h2
        clear h2
        go_roundw
        case rel => exact Or.inr ⟨rfl, H2.out, bAfter (bAfter HB0.out (below1 _ _)) HB1.out⟩
        case measure => simp [sliceLen]
    · have HB := tuck hb
      have HRR := tuck hr
      clear hb hr
      go_wp2
      go_ret
      exact ⟨ret_bool HRR.out.symm, HB.out⟩

set_option maxRecDepth 100000 in
/-- TermSame, where its first argument is valid or has no operands. -/
theorem termSame_any (t u : Tm) (w : World) (v1 v2 : Value) (ht : t.Valid ∨ t.kids = []) (h1 : TmIn w 0 t v1) (h2 : TmIn w 0 u v2) : Calls Try.prog 27 #[v1, v2] w (BoolPost w (same t u)) := by
  obtain ⟨s1, rfl, h1⟩ := h1
  obtain ⟨s2, rfl, h2⟩ := h2
  obtain ⟨a, c, rfl⟩ := h1.form
  obtain ⟨a', c', rfl⟩ := h2.form
  have H1 := tuck h1
  have H2 := tuck h2
  have HV : Hid (∀ (w : World), SlIn w 0 t.kids (.slice a t.kids.length c) → Calls Try.prog 46 #[.agg #[.int .i64 t.kind, .int .i64 t.num, .slice a t.kids.length c]] w (BoolPost w (tr t.Valid))) := fun w h => validI_any t w _ ⟨_, rfl, h⟩
  clear h1 h2
  by_cases hv : t.Valid
  · rw [tr_of hv] at HV
    have HT : Hid (∀ (w : World), SlIn w 0 t.kids (.slice a t.kids.length c) → SlIn w 0 u.kids (.slice a' u.kids.length c') → Calls Try.prog 47 #[.agg #[.int .i64 t.kind, .int .i64 t.num, .slice a t.kids.length c], .agg #[.int .i64 u.kind, .int .i64 u.num, .slice a' u.kids.length c']] w (BoolPost w (same t u))) := fun w h g => by
      have := sameTree_any t.kids t.kind t.num u w _ _ h ⟨_, rfl, g⟩
      rwa [Tm.eta] at this
    clear ht hv
    generalize same t u = r at *
    go_enter Try.func27, Try.ntmps27
    go_wp2_with (first | (go_at_call 46; refine (HV.out _ (H1.out.below (below2 _ _ _))).mono ?_; rintro e w1 ⟨rfl, hb1⟩; obtain ⟨oc, of⟩ := old_cells hb1; have HB1 := tuck hb1; clear hb1) | (go_at_call 47; refine (HT.out _ (H1.out.below (bAfter (below2 _ _ _) HB1.out)) (H2.out.below (bAfter (below2 _ _ _) HB1.out))).mono ?_; rintro e w2 ⟨rfl, hb2⟩))
    go_ret
    exact ⟨rfl, bAfter (bAfter (below2 _ _ _) HB1.out) hb2⟩
  · rw [tr_not hv] at HV
    have hk : t.kids = [] := ht.resolve_left hv
    have HG : Hid (∀ (w : World), Calls Try.prog 48 #[.agg #[.int .i64 t.kind, .int .i64 t.num, .slice a t.kids.length c], .agg #[.int .i64 u.kind, .int .i64 u.num, .slice a' u.kids.length c']] w (BoolPost w (same t u))) := fun w => by
      have h := sameGraph_leaf t u a a' c c' w (by rw [hk]; rfl)
      have e : rootSame t u = same t u := by
        rw [same_root, Bool.eq_iff_iff]
        simp only [Bool.and_eq_true, same_iff, rootSame, tr_iff]
        exact ⟨fun h => ⟨h, by rw [hk] at h ⊢; exact (List.length_eq_zero_iff.1 (by have := h.2.2; simpa using this.symm)).symm⟩, fun h => h.1⟩
      rwa [e] at h
    clear ht hv hk
    generalize same t u = r at *
    go_enter Try.func27, Try.ntmps27
    go_wp2_with (first | (go_at_call 46; refine (HV.out _ (H1.out.below (below2 _ _ _))).mono ?_; rintro e w1 ⟨rfl, hb1⟩; obtain ⟨oc, of⟩ := old_cells hb1; have HB1 := tuck hb1; clear hb1) | (go_at_call 48; refine (HG.out _).mono ?_; rintro e w2 ⟨rfl, hb2⟩))
    go_ret
    exact ⟨rfl, bAfter (bAfter (below2 _ _ _) HB1.out) hb2⟩

end Go.Proofs.Ytjhjnkeildeedaa
