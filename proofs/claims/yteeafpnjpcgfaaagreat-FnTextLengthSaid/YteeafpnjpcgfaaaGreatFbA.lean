/-
  A strings.Builder at the head of a longer block (a field of a struct): what is written to it, and its text.
-/
import Derived.Test.YteeafpnjpcgfaaaGreatLawT
import Derived.Lib.FrozenHead
import Derived.Lib.OthersKept
import Derived.Shelf.RegionOpen
namespace Go.Proofs.YteeafpnjpcgfaaaGreat
open Go.RowKit Go.Shelf
set_option linter.unusedVariables false
set_option linter.unusedSimpArgs false

theorem info_u8F : (Tryz.prog.info? 5).map (fun i => (i.zero, i.size, i.bytes)) = some (some (.int .u8 0), 1, 1) := by kernel_rfl
theorem info_bld : (Tryz.prog.info? 58).map (·.size) = some 2 := by kernel_rfl
theorem size_u8F : Tryz.prog.cellsOf 5 = 1 := by kernel_rfl

/-- The first two cells of block b are a builder that holds the cells bs; 'rest' are the block's further cells. -/
def FAt (B b : Nat) (T : TypeId) (rest : List Value) (p : Value) (bs : List Value) (w : World) : Prop :=
  B ≤ b ∧ ∃ v, w.heap[b]? = some (.cells (p :: v :: rest).toArray T (0, 0)) ∧ w.ownsRowF B 5 1 v bs.length bs ∧ v.ownBlock ≠ some b

section
variable {B b : Nat} {T : TypeId} {rest : List Value} {p : Value} {bs : List Value} {w : World}
theorem FAt.lt (h : FAt B b T rest p bs w) : b < w.heap.size := by
  obtain ⟨_, v, hb, _⟩ := h
  rcases Nat.lt_or_ge b w.heap.size with h' | h'
  · exact h'
  · simp [Array.getElem?_eq_none h'] at hb
theorem FAt.cell0 (h : FAt B b T rest p bs w) : w.cell? ⟨b, 0, none⟩ = some p := by
  obtain ⟨_, v, hb, _⟩ := h
  simp [World.cell?, hb]
theorem FAt.shape (h : FAt B b T rest p bs w) : w.shape? b = some (T, rest.length + 2) := by
  obtain ⟨_, v, hb, _⟩ := h
  simp [World.shape?, hb]
theorem FAt.frozen (h : FAt B b T rest p bs w) (i : Nat) : w.frozen? ⟨b, i, none⟩ = false := by
  obtain ⟨_, v, hb, _⟩ := h
  simp [World.frozen?, hb]
theorem FAt.cellR (h : FAt B b T rest p bs w) (i : Nat) : w.cell? ⟨b, i + 2, none⟩ = rest[i]? := by
  obtain ⟨_, v, hb, _⟩ := h
  simp [World.cell?, hb]
theorem FAt.used (h : FAt B b T rest p bs w) (q : Value) : FAt B b T rest q bs (w.setCell ⟨b, 0, none⟩ q) := by
  obtain ⟨hB, v, hb, hown, hne⟩ := h
  refine ⟨hB, v, ?_, ?_, hne⟩
  · simp [World.setCell, Array.getElem?_modify, hb]
  · refine hown.kept (row := some b) ⟨rfl, rfl, rfl, by simp [World.setCell], fun k _ hk => Below.heap_setCell _ _ _ _ (fun e => hk (by simp [e]))⟩ ?_
    exact Or.inr hne
theorem FAt.put {v v' : Value} {bs' : List Value} (hB : B ≤ b) (hb : w.heap[b]? = some (.cells (p :: v :: rest).toArray T (0, 0))) (hown : w.ownsRowF B 5 1 v' bs'.length bs') (hTe : T ≠ 5) : FAt B b T rest p bs' (w.setCell ⟨b, 1, none⟩ v') := by
  have hne := Lib.ownBlock_neF hown hb hTe
  refine ⟨hB, v', ?_, ?_, hne⟩
  · simp [World.setCell, Array.getElem?_modify, hb]
  · exact hown.kept (row := some b) ⟨rfl, rfl, rfl, by simp [World.setCell], fun k _ hk => Below.heap_setCell _ _ _ _ (fun e => hk (by simp [e]))⟩ (Or.inr hne)
theorem FAt.drew (h : FAt B b T rest p bs w) : FAt B b T rest p bs w.drew := h
theorem FAt.alloc (h : FAt B b T rest p bs w) (o : Obj) : FAt B b T rest p bs (w.alloc o) := by
  have hlt := h.lt
  obtain ⟨hB, v, hb, hown, hne⟩ := h
  exact ⟨hB, v, (Lib.alloc_old w o b hlt).trans hb, hown.kept (World.grownBy_alloc w o none) (by cases hv : v.ownBlock <;> simp), hne⟩
end

/-- A builder that may be fresh. -/
def FIs (B b : Nat) (T : TypeId) (rest : List Value) (bs : List Value) (w : World) : Prop := FAt B b T rest (.pointer none) bs w ∨ FAt B b T rest (.pointer (some ⟨b, 0, none⟩)) bs w
section
variable {B b : Nat} {T : TypeId} {rest : List Value} {bs : List Value} {w : World}
theorem FIs.lt (h : FIs B b T rest bs w) : b < w.heap.size := h.elim FAt.lt FAt.lt
theorem FIs.drew (h : FIs B b T rest bs w) : FIs B b T rest bs w.drew := h
theorem FIs.alloc (h : FIs B b T rest bs w) (o : Obj) : FIs B b T rest bs (w.alloc o) := h.imp (FAt.alloc · o) (FAt.alloc · o)
theorem FIs.cellR (h : FIs B b T rest bs w) (i : Nat) : w.cell? ⟨b, i + 2, none⟩ = rest[i]? := h.elim (FAt.cellR · i) (FAt.cellR · i)
theorem FIs.ge (h : FIs B b T rest bs w) : B ≤ b := h.elim (·.1) (·.1)
end

/-- A builder may lie at the head of a block of this type. -/
structure Heads (T : TypeId) (n : Nat) : Prop where
  h : liesAt Tryz.prog Tryz.prog.depth T ((n + 2) / Tryz.prog.cellsOf T) 0 58 1 = true

set_option maxRecDepth 100000 in
set_option maxHeartbeats 1000000 in
theorem ccF_fresh (T : TypeId) (n b : Nat) (w : World) (hl : Heads T n) (h0 : w.cell? ⟨b, 0, none⟩ = some (.pointer none)) (hsh : w.shape? b = some (T, n + 2)) (hfz : w.frozen? ⟨b, 0, none⟩ = false) :
    Calls Tryz.prog 83 #[.pointer (some ⟨b, 0, none⟩)] w fun e w' => e = .returned (.tuple #[]) ∧ w' = w.setCell ⟨b, 0, none⟩ (.pointer (some ⟨b, 0, none⟩)) := by
  obtain ⟨j, hj, hjs⟩ := Option.map_eq_some_iff.1 info_bld
  go_enter Tryz.func83, Tryz.ntmps83
  go_wp2
  rw [Lib.run_to_unsafe w ⟨b, 0, none⟩ Tryz.underlying56 Tryz.underlying185 hj (by rw [hjs]; decide) hsh (Nat.zero_lt_succ _)]
  simp only [Result.andThen]
  rw [Oper.upon_value]
  go_wp2
  rw [run_callFunc_extern Tryz.func101 (by kernel_rfl) (by kernel_rfl) (by kernel_rfl) (e := Extern.AbiNoEscape.same) (by kernel_rfl)]
  rw [Lib.run_noEscape]
  simp only [Result.andThen]
  rw [Oper.upon_value]
  go_wp2
  rw [Lib.run_from_unsafe w ⟨b, 0, none⟩ Tryz.underlying185 Tryz.underlying56 hj hsh hl.h]
  simp only [Result.andThen]
  rw [Oper.upon_value]
  go_wp2
  go_end0
  exact ⟨rfl, rfl⟩

set_option maxRecDepth 100000 in
set_option maxHeartbeats 1000000 in
theorem ccF_used (b : Nat) (w : World) (h0 : w.cell? ⟨b, 0, none⟩ = some (.pointer (some ⟨b, 0, none⟩))) :
    Calls Tryz.prog 83 #[.pointer (some ⟨b, 0, none⟩)] w fun e w' => e = .returned (.tuple #[]) ∧ w' = w := by
  obtain ⟨j, hj, hjs⟩ := Option.map_eq_some_iff.1 info_bld
  go_enter Tryz.func83, Tryz.ntmps83
  go_wp2
  rw [Lib.run_neq_ptr_same w _ Tryz.underlying56 hj]
  go_wp2
  go_end0
  exact ⟨rfl, rfl⟩

/-- What a write leaves: the builder with what was written; every block but the builder's and rows of bytes stands. -/
def FPost (B b : Nat) (T : TypeId) (rest : List Value) (bs : List Value) (w w' : World) : Prop := FIs B b T rest bs w' ∧ Below B w w' ∧ Lib.OthersKept 5 (some b) w w'

theorem FPost.trans {B b : Nat} {T : TypeId} {rest : List Value} {bs bs' : List Value} {w w1 w2 : World} (h1 : FPost B b T rest bs w w1) (h2 : FPost B b T rest bs' w1 w2) : FPost B b T rest bs' w w2 := ⟨h2.1, h1.2.1.trans h2.2.1, h1.2.2.trans h2.2.2⟩

theorem ccF_any (B b : Nat) (T : TypeId) (rest bs : List Value) (w : World) (hl : Heads T rest.length) (h : FIs B b T rest bs w) :
    Calls Tryz.prog 83 #[.pointer (some ⟨b, 0, none⟩)] w fun e w' => e = .returned (.tuple #[]) ∧ FAt B b T rest (.pointer (some ⟨b, 0, none⟩)) bs w' ∧ Below B w w' ∧ Lib.OthersKept 5 (some b) w w' := by
  rcases h with h | h
  · refine (ccF_fresh T rest.length b w hl h.cell0 h.shape (h.frozen 0)).mono ?_
    rintro e w' ⟨rfl, rfl⟩
    exact ⟨rfl, h.used _, (Below.refl B w).setCell (p := ⟨b, 0, none⟩) h.1 _, (Lib.OthersKept.refl _ _ w).setCell ⟨b, 0, none⟩ rfl _⟩
  · refine (ccF_used b w h.cell0).mono ?_
    rintro e w' ⟨rfl, rfl⟩
    exact ⟨rfl, h, Below.refl B _, Lib.OthersKept.refl _ _ _⟩

set_option maxRecDepth 100000 in
set_option maxHeartbeats 2000000 in
theorem writeF_any (B b : Nat) (T : TypeId) (rest bs : List Value) (s : ByteArray) (w : World) (hl : Heads T rest.length) (hT : T ≠ 5) (h : FIs B b T rest bs w) (hlen : bs.length + s.size ≤ 140737488355328) (hBw : B ≤ w.heap.size) :
    Calls Tryz.prog 50 #[.pointer (some ⟨b, 0, none⟩), .string s] w fun e w' => e = .returned (.tuple #[.int .i64 s.size, .nilIface]) ∧ FPost B b T rest (bs ++ Lib.strCells s) w w' := by
  obtain ⟨i0, hi, hz0, hz1, hz2⟩ : ∃ i0, Tryz.prog.info? 5 = some i0 ∧ i0.zero = some (.int .u8 0) ∧ i0.size = 1 ∧ i0.bytes = 1 := by
    obtain ⟨i0, hi, he⟩ := Option.map_eq_some_iff.1 info_u8F
    simp only [Prod.mk.injEq] at he
    exact ⟨i0, hi, he.1, he.2.1, he.2.2⟩
  have HC := tuck (ccF_any B b T rest bs w hl h)
  clear h hl
  go_enter Tryz.func50, Tryz.ntmps50
  go_wp2_with fail
  refine HC.out.mono ?_
  rintro e w1 ⟨rfl, h1, hb1, hk1⟩
  obtain ⟨hB, v, hbk, hown, hne⟩ := h1
  have c0 : w1.cell? ⟨b, 0, none⟩ = some (.pointer (some ⟨b, 0, none⟩)) := by rw [Lib.cell_of_heap hbk]; simp
  have c1 : w1.cell? ⟨b, 1, none⟩ = some v := by rw [Lib.cell_of_heap hbk]; simp
  clear HC
  go_wp2_with (at_builtin; refine Lib.wpList_append_own_stringF _ rfl _ _ 33 9 rfl B 5 i0 Tryz.underlying33 Tryz.underlying9 hi hz0 hz1 hz2 _ _ _ rfl hown s rfl ?c3 ?c4 ?c5 ?_)
  case c3 => unfold maxLen; omega
  case c4 => omega
  case c5 => have := hb1.size; omega
  intro v' w2 hown' hgrow _
  have hlt : b < w1.heap.size := by
    rcases Nat.lt_or_ge b w1.heap.size with h' | h'
    · exact h'
    · simp [Array.getElem?_eq_none h'] at hbk
  have hb2 : w2.heap[b]? = some (.cells (Value.pointer (some ⟨b, 0, none⟩) :: v :: rest).toArray T (0, 0)) := by
    rw [hgrow.block b hlt (fun e => hne e.symm)]
    exact hbk
  have d0 : w2.cell? ⟨b, 0, none⟩ = some (.pointer (some ⟨b, 0, none⟩)) := by rw [Lib.cell_of_heap hb2]; simp
  have d1 : w2.cell? ⟨b, 1, none⟩ = some v := by rw [Lib.cell_of_heap hb2]; simp
  have f1 : w2.frozen? ⟨b, 1, none⟩ = false := Lib.frozen_of_heap hb2 1
  obtain ⟨ao, n', cap, rfl⟩ : ∃ ao n' cap, v' = .slice ao n' cap := by
    rcases hown'.2 with ⟨hv, _⟩ | ⟨g, cap, cur, fz, hv, _⟩
    · exact ⟨_, _, _, hv⟩
    · exact ⟨_, _, _, hv⟩
  have HP : Hid (FPost B b T rest (bs ++ Lib.strCells s) w (w2.setCell ⟨b, 1, none⟩ (.slice ao n' cap))) := tuck ⟨.inr (FAt.put hB hb2 (bs' := bs ++ Lib.strCells s) (by simpa [Lib.strCells_length] using hown') hT), (hb1.grown hgrow (by have := hb1.size; omega) (fun k hk => (hown.lt k hk).1)).setCell (p := ⟨b, 1, none⟩) hB _, (hk1.grown hgrow (Lib.ownsRowF_kind hown)).setCell ⟨b, 1, none⟩ rfl _⟩
  clear hb2 hown' hown hgrow hk1 hb1 hbk
  go_wp2
  go_ret2
  exact ⟨rfl, HP.out⟩

end Go.Proofs.YteeafpnjpcgfaaaGreat
