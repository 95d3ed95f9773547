/-
  Lists of definitions (two terms each), as they lie in memory ('DfIn'); an argument that is one.
-/
import Derived.Test.YteeafpnjpcgfaaaGreatOpenL
namespace Go.Proofs.YteeafpnjpcgfaaaGreat
open Go.RowKit

/-- A slice of definitions that may be read; it lies in blocks from B on. -/
def DfIn (w : World) (B : Nat) (l : List (Tm × Tm)) (v : Value) : Prop :=
  ∃ a cap b o, v = .slice a l.length cap ∧ l.length ≤ maxLen ∧ (0 < l.length → a = some ⟨b, o, none⟩ ∧ B ≤ b ∧ b < w.heap.size) ∧ ∀ (i : Nat) (h : i < l.length), ∃ s u, w.cell? ⟨b, o + i * 6, none⟩ = some (.int .i64 l[i].1.kind) ∧ w.cell? ⟨b, o + i * 6 + 1, none⟩ = some (.int .i64 l[i].1.num) ∧ w.cell? ⟨b, o + i * 6 + 2, none⟩ = some s ∧ w.cell? ⟨b, o + i * 6 + 3, none⟩ = some (.int .i64 l[i].2.kind) ∧ w.cell? ⟨b, o + i * 6 + 4, none⟩ = some (.int .i64 l[i].2.num) ∧ w.cell? ⟨b, o + i * 6 + 5, none⟩ = some u ∧ SlIn w B l[i].1.kids s ∧ SlIn w B l[i].2.kids u
theorem DfIn.form {w : World} {B : Nat} {l : List (Tm × Tm)} {v : Value} (h : DfIn w B l v) : ∃ a cap, v = .slice a l.length cap := by
  obtain ⟨a, cap, _, _, h, _⟩ := h
  exact ⟨a, cap, h⟩
theorem DfIn.below {w w' : World} {B : Nat} {l : List (Tm × Tm)} {v : Value} (h : DfIn w B l v) (hb : Below w.heap.size w w') : DfIn w' B l v := by
  obtain ⟨a, cap, b, o, h0, h1, h2, h3⟩ := h
  refine ⟨a, cap, b, o, h0, h1, fun h => ⟨(h2 h).1, (h2 h).2.1, Nat.lt_of_lt_of_le (h2 h).2.2 hb.size⟩, fun i hi => ?_⟩
  obtain ⟨s, u, k0, k1, k2, k3, k4, k5, k6, k7⟩ := h3 i hi
  have hbw := (h2 (by omega)).2.2
  have hc : ∀ j, w'.cell? ⟨b, j, none⟩ = w.cell? ⟨b, j, none⟩ := fun j => hb.cell (p := ⟨b, j, none⟩) hbw
  exact ⟨s, u, by rw [hc]; exact k0, by rw [hc]; exact k1, by rw [hc]; exact k2, by rw [hc]; exact k3, by rw [hc]; exact k4, by rw [hc]; exact k5, k6.below hb, k7.below hb⟩
theorem DfIn.mono {w : World} {B B' : Nat} {l : List (Tm × Tm)} {v : Value} (h : DfIn w B l v) (hB : B' ≤ B) : DfIn w B' l v := by
  obtain ⟨a, cap, b, o, h0, h1, h2, h3⟩ := h
  refine ⟨a, cap, b, o, h0, h1, fun h => ⟨(h2 h).1, Nat.le_trans hB (h2 h).2.1, (h2 h).2.2⟩, fun i hi => ?_⟩
  obtain ⟨s, u, k0, k1, k2, k3, k4, k5, k6, k7⟩ := h3 i hi
  exact ⟨s, u, k0, k1, k2, k3, k4, k5, k6.mono hB, k7.mono hB⟩

/-- The sum of the sizes, and one for each definition. -/
def dsizes : List (Tm × Tm) → Nat
  | [] => 0
  | (t, u) :: l => 1 + sizes t.kids + sizes u.kids + dsizes l
theorem dsizes_take_succ : ∀ (l : List (Tm × Tm)) (i : Nat) (h : i < l.length), dsizes (l.take (i + 1)) = dsizes (l.take i) + (1 + sizes l[i].1.kids + sizes l[i].2.kids)
  | [], i, h => by simp at h
  | (t, u) :: l, 0, h => by simp [dsizes]
  | (t, u) :: l, i + 1, h => by
    have := dsizes_take_succ l i (by simpa using h)
    simp only [List.take_succ_cons, dsizes, List.getElem_cons_succ]
    omega
theorem dsizes_take_le : ∀ (l : List (Tm × Tm)) (i : Nat), dsizes (l.take i) ≤ dsizes l
  | [], i => by simp [dsizes]
  | (t, u) :: l, 0 => by simp [dsizes]
  | (t, u) :: l, i + 1 => by
    have := dsizes_take_le l i
    simp only [List.take_succ_cons, dsizes]
    omega
theorem dsizes_len : ∀ l : List (Tm × Tm), l.length ≤ dsizes l
  | [] => by simp
  | (t, u) :: l => by
    have := dsizes_len l
    simp only [List.length_cons, dsizes]
    omega
theorem dsizes_get {l : List (Tm × Tm)} {i : Nat} (h : i < l.length) : sizes l[i].1.kids + sizes l[i].2.kids + 1 ≤ dsizes l := by
  have h1 := dsizes_take_succ l i h
  have h2 := dsizes_take_le l (i + 1)
  omega

end Go.Proofs.YteeafpnjpcgfaaaGreat
namespace Go.Proofs.YteeafpnjpcgfaaaGreat
open Go.ChangeShapes Go.WideShapes Go.ChangeAt Go.RowKit Go.Deep
theorem cells_ldef : Tryz.prog.cellsOf 78 = 6 := by kernel_rfl

section
variable {H : Type} {enc : TypeId × Value → H} {W : World}

set_option maxRecDepth 100000 in
theorem open_defs {v : Value} {d : DataW H} {ps : List MemPlace} (hok : Value.okWide Tryz.prog W .any 0 40 v) (h : DataW.Trod enc Tryz.prog W 0 (fun _ => true) true 40 v d ps) : ∃ l : List (Tm × Tm), DfIn W 0 l v := by
  obtain ⟨a0, len0, cap0, rfl⟩ := okWide_slice Tryz.underlying40 hok
  obtain ⟨n, hn⟩ := h
  rcases open_slice Tryz.underlying40 hn with ⟨hc, hy⟩ | ⟨a, len, cap, mm, q, D, Pl, hc, _, hl, hm, hmm, hy, hall⟩
  · simp [Value.cells] at hc
    obtain ⟨rfl, rfl, rfl⟩ := hc
    exact ⟨[], _, _, 0, 0, rfl, by simp [maxLen], fun h => absurd h (by simp), fun i hi => by simp at hi⟩
  · simp [Value.cells] at hc
    obtain ⟨rfl, rfl, rfl⟩ := hc
    simp only [if_true] at hmm
    subst hmm
    rw [cells_ldef] at hall
    have hone : ∀ i, i < len0 → ∃ t : Tm × Tm, ∃ s u, W.cell? (a.add (i * 6)) = some (.int .i64 t.1.kind) ∧ W.cell? ((a.add (i * 6)).add 1) = some (.int .i64 t.1.num) ∧ W.cell? ((a.add (i * 6)).add 2) = some s ∧ W.cell? ((a.add (i * 6)).add 3) = some (.int .i64 t.2.kind) ∧ W.cell? ((a.add (i * 6)).add 4) = some (.int .i64 t.2.num) ∧ W.cell? ((a.add (i * 6)).add 5) = some u ∧ SlIn W 0 t.1.kids s ∧ SlIn W 0 t.2.kids u := by
      intro i hi
      obtain ⟨cs', g1, g2⟩ := hall i (by omega)
      obtain ⟨y0, y1, m, hx, hlen, h0, h1⟩ := trod_struct2 Tryz.underlying78 g2
      rw [cells_ldef] at hlen
      obtain ⟨_, _, hcell⟩ := World.cells?_some g1
      match cs', hlen with
      | [c0, c1, c2, c3, c4, c5], _ =>
        simp only [cells_lterm] at h0 h1
        obtain ⟨t, s, e0, hs⟩ := open_termN (W := W) (enc := enc) _ y0.1 (Nat.le_refl _) m [c0, c1, c2] y0.2 h0
        obtain ⟨t', u, e1, hu⟩ := open_termN (W := W) (enc := enc) _ y1.1 (Nat.le_refl _) m [c3, c4, c5] y1.2 h1
        simp only [List.cons.injEq, and_true] at e0 e1
        obtain ⟨rfl, rfl, rfl⟩ := e0
        obtain ⟨rfl, rfl, rfl⟩ := e1
        exact ⟨(t, t'), _, _, by simpa [Addr.add] using hcell 0 (by omega), by simpa using hcell 1 (by omega), by simpa using hcell 2 (by omega), by simpa using hcell 3 (by omega), by simpa using hcell 4 (by omega), by simpa using hcell 5 (by omega), hs, hu⟩
    obtain ⟨T, hT⟩ := choose_lt (α := Tm × Tm) (p := fun i t => ∃ s u, W.cell? (a.add (i * 6)) = some (.int .i64 t.1.kind) ∧ W.cell? ((a.add (i * 6)).add 1) = some (.int .i64 t.1.num) ∧ W.cell? ((a.add (i * 6)).add 2) = some s ∧ W.cell? ((a.add (i * 6)).add 3) = some (.int .i64 t.2.kind) ∧ W.cell? ((a.add (i * 6)).add 4) = some (.int .i64 t.2.num) ∧ W.cell? ((a.add (i * 6)).add 5) = some u ∧ SlIn W 0 t.1.kids s ∧ SlIn W 0 t.2.kids u) hone
    obtain ⟨b, o, spot⟩ := a
    have hspot : 0 < len0 → spot = none ∧ b < W.heap.size := fun h0 => by
      obtain ⟨s, u, g0, _⟩ := hT 0 h0
      have e : spot = none := by simpa [Addr.add] using World.cell?_spot g0
      subst e
      have ea : (Addr.mk b o none).add (0 * 6) = ⟨b, o + 0 * 6, none⟩ := by unfold Addr.add; split <;> simp_all
      rw [ea] at g0
      exact ⟨rfl, World.block_lt_of_cell? W _ g0⟩
    have hlen : ((List.range len0).map T).length = len0 := by simp
    refine ⟨(List.range len0).map T, some ⟨b, o, spot⟩, _, b, o, by rw [hlen], by rw [hlen]; omega, fun h0 => ?_, fun i hi => ?_⟩
    · rw [hlen] at h0
      obtain ⟨rfl, hb⟩ := hspot h0
      exact ⟨rfl, Nat.zero_le _, hb⟩
    · rw [hlen] at hi
      obtain ⟨rfl, hb⟩ := hspot (by omega)
      obtain ⟨s, u, g0, g1, g2, g3, g4, g5, hs, hu⟩ := hT i hi
      have ea : ∀ j, (Addr.mk b o none).add j = ⟨b, o + j, none⟩ := fun j => by unfold Addr.add; split <;> simp_all
      have eb : ∀ x j, (Addr.mk b x none).add j = ⟨b, x + j, none⟩ := fun x j => by unfold Addr.add; split <;> simp_all
      rw [ea] at g0
      rw [ea, eb] at g1 g2 g3 g4 g5
      simp only [List.getElem_map, List.getElem_range]
      exact ⟨s, u, g0, g1, g2, g3, g4, g5, hs, hu⟩
end

end Go.Proofs.YteeafpnjpcgfaaaGreat
