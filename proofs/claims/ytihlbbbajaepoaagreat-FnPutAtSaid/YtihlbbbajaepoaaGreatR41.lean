/-
  VarsU.
-/
import Derived.Test.YtihlbbbajaepoaaGreatR16
import Derived.Test.YtihlbbbajaepoaaGreatR39
import Derived.Test.YtihlbbbajaepoaaGreatR40
namespace Go.Proofs.YtihlbbbajaepoaaGreat
open Go.RowKit
theorem sizes_set' : ∀ (l : List Tm) (i : Nat) (h : i < l.length) (z : Tm), sizes (l.set i z) + (l[i]).size = sizes l + z.size
 | [], i, h, z => by simp at h
 | t :: l, 0, h, z => by
  simp only [List.set_cons_zero, sizes, List.getElem_cons_zero]
  omega
 | t :: l, i + 1, h, z => by
  have := sizes_set' l i (by simpa using h) z
  simp only [List.set_cons_succ, sizes, List.getElem_cons_succ]
  omega
theorem size_around : ∀ (p : List (Tm × Nat)) (t x u : Tm), Chain t p x → (around p u).size + x.size = t.size + u.size
 | [], t, x, u, h => by
  have : t = x := h
  subst this
  rw [around]
  omega
 | (a, i) :: p, t, x, u, h => by
  obtain ⟨rfl, hi, hc⟩ := h
  have h1 := size_around p (kidT a i) x u hc
  have h2 := sizes_set' a.kids i hi (around p u)
  have h3 := a.size_eq
  rw [around]
  have h4 := (Tm.mk a.kind a.num (a.kids.set i (around p u))).size_eq
  rw [kidT_eq hi] at h1
  have h5 : (Tm.mk a.kind a.num (a.kids.set i (around p u))).kids = a.kids.set i (around p u) := rfl
  rw [h5] at h4
  omega
theorem chain_put : ∀ (p : List (Tm × Nat)) (t x : Tm) (N : Int → Int) (u : Tm), Chain t p x → (∀ j (h : j < p.length), ((p[j].2 : Nat) : Int) = N (j : Int)) → ∃ q, way (around p u) N p.length = some (q, u) ∧ ∀ z, around q z = around p z
 | [], t, x, N, u, h, hN => ⟨[], rfl, fun z => rfl⟩
 | (a, i) :: p, t, x, N, u, h, hN => by
  obtain ⟨rfl, hi, hc⟩ := h
  have h0 : N (0 : Nat) = (i : Int) := (hN 0 (by simp)).symm
  obtain ⟨q, hq, hz⟩ := chain_put p (kidT a i) x (fun j => N ((1 : Nat) + j)) u hc (fun j hj => by
   have := hN (j + 1) (by simp; omega)
   simp only [List.getElem_cons_succ] at this
   rw [this]
   congr 1
   push_cast
   omega)
  have hk : kidT (Tm.mk a.kind a.num (a.kids.set i (around p u))) i = around p u := by
   unfold kidT
   show (a.kids.set i (around p u)).getD i zeroT = around p u
   simp [hi]
  have hl : (Tm.mk a.kind a.num (a.kids.set i (around p u))).kids.length = a.kids.length := by
   show (a.kids.set i (around p u)).length = _
   simp
  have h1 : way (Tm.mk a.kind a.num (a.kids.set i (around p u))) N 1 = some ([(Tm.mk a.kind a.num (a.kids.set i (around p u)), i)], around p u) := by
   have := way_yes (t := Tm.mk a.kind a.num (a.kids.set i (around p u))) (N := N) (i := 0) (p := []) (x := Tm.mk a.kind a.num (a.kids.set i (around p u))) rfl ⟨by rw [h0]; omega, by rw [h0, hl]; omega⟩
   rw [h0, Int.toNat_natCast, hk] at this
   exact this
  have h2 := way_split h1 p.length
  rw [hq] at h2
  refine ⟨(Tm.mk a.kind a.num (a.kids.set i (around p u)), i) :: q, ?_, fun z => ?_⟩
  ·rw [around, List.length_cons, Nat.add_comm, h2]
   rfl
  ·rw [around, around, hz z]
   show Tm.mk a.kind a.num ((a.kids.set i (around p u)).set i (around p z)) = _
   rw [List.set_set]
theorem PutOk.known {T S : Tm} {N : Int → Int} {n : Nat} (h : PutOk T N n S) : IsPlace (around (wayP T N n) S) N n ∧ wayT (around (wayP T N n) S) N n = S ∧ PutOk (around (wayP T N n) S) N n (wayT T N n) ∧ around (wayP (around (wayP T N n) S) N n) (wayT T N n) = T ∧ S.Valid ∧ (around (wayP T N n) S).size + (wayT T N n).size = T.size + S.size := by
 have K := h.1.ok
 obtain ⟨q, hq, hz⟩ := chain_put _ T _ N S K.chain K.ix
 rw [K.len] at hq
 obtain ⟨k1, k2, k3⟩ := is_place h.2 hq
 have hb : around (wayP (around (wayP T N n) S) N n) (wayT T N n) = T := by rw [k2, hz, K.back]
 exact ⟨k1, k3, ⟨k1, by rw [hb]; exact h.1.1⟩, hb, around_valid _ _ K.inn h.2, size_around _ _ _ _ K.chain⟩
theorem putAtI_p {t u : Tm} {N : Int → Int} {len : Nat} (hlen : len ≤ 1048576) (w : World) (v tv uv : Value) (hl : IntsC w 0 N len v) (ht : TmIn w 0 t tv) (hu : TmIn w 0 u uv) : Calls Tryz.prog 28 #[tv, v, uv] w (PairPost w (orZero (PutOk t N len u) (around (wayP t N len) u)) (tr (PutOk t N len u))) := (putAtI_any t N len hlen u w tv v uv ht hl.ints hu).mono fun _ _ h => h.pair
theorem putAtS_p {t u : Tm} {N : Int → Int} {len : Nat} (hlen : len ≤ 1048576) (w : World) (v tv uv : Value) (hl : IntsC w 0 N len v) (ht : TmIn w 0 t tv) (hu : TmIn w 0 u uv) : Calls Tryz.prog 29 #[tv, v, uv] w (PairPost w (orZero (PutOk t N len u) (around (wayP t N len) u)) (tr (PutOk t N len u))) := (putAtS_any t N len hlen u w tv v uv ht hl hu).mono fun _ _ h => h.pair8
end Go.Proofs.YtihlbbbajaepoaaGreat
