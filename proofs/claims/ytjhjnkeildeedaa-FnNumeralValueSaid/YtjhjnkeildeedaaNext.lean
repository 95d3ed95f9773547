/-
  A row of terms that is being filled, each term in memory of its own. impl.termBuffer.next takes a term off the buffer, in memory of its own; impl.replaceFree.
-/
import Derived.Test.YtjhjnkeildeedaaNum
import Derived.Test.YtjhjnkeildeedaaCopy
namespace Go.Proofs.Ytjhjnkeildeedaa
open Go.RowKit

/-- A term of its own is put at index q of a row that is being filled. -/
theorem row_put {w3 : World} {R q : Nat} {l : List Tm} {x : Tm} {s : Value} {F F2 : List Nat} {cs : Array Value} {T : TypeId} (hb : w3.heap[R]? = some (.cells cs T (0, 0))) (hq : q < l.length) (hsz : cs.size = l.length * 3)
    (hrow : RowOwn w3 (l.take q) R 0 F) (hs : SlOwn w3 x.kids s F2) (hR : R ∉ F) (hR2 : R ∉ F2) :
    (∃ cs' : Array Value, (((w3.setCell ⟨R, q * 3, none⟩ (.int .i64 x.kind)).setCell ⟨R, q * 3 + 1, none⟩ (.int .i64 x.num)).setCell ⟨R, q * 3 + 2, none⟩ s).heap[R]? = some (.cells cs' T (0, 0)) ∧ cs'.size = l.length * 3) ∧
      RowOwn (((w3.setCell ⟨R, q * 3, none⟩ (.int .i64 x.kind)).setCell ⟨R, q * 3 + 1, none⟩ (.int .i64 x.num)).setCell ⟨R, q * 3 + 2, none⟩ s) (l.take q ++ [x]) R 0 (F ++ F2) := by
  have h4 := block_set (block_set (block_set hb (q * 3) (.int .i64 x.kind)) (q * 3 + 1) (.int .i64 x.num)) (q * 3 + 2) s
  obtain ⟨_, c3, _⟩ := block_of_cells hb
  obtain ⟨_, c4, _⟩ := block_of_cells h4
  have hsame : ∀ g, g ≠ R → SameAt w3 (((w3.setCell ⟨R, q * 3, none⟩ (.int .i64 x.kind)).setCell ⟨R, q * 3 + 1, none⟩ (.int .i64 x.num)).setCell ⟨R, q * 3 + 2, none⟩ s) g := fun g hg =>
    SameAt.of_block ((Below.heap_setCell _ _ _ _ hg).trans ((Below.heap_setCell _ _ _ _ hg).trans (Below.heap_setCell _ _ _ _ hg)))
  refine ⟨⟨_, h4, by simp [hsz]⟩, RowOwn_append.2 ⟨F, F2, rfl, hrow.keep (fun i hi => ?_) (fun g hg => hsame g (fun e => hR (e ▸ hg))), ?_⟩⟩
  · rw [List.length_take] at hi
    rw [c4, c3, Nat.zero_add, Array.getElem?_setIfInBounds_ne (by omega), Array.getElem?_setIfInBounds_ne (by omega), Array.getElem?_setIfInBounds_ne (by omega)]
  · have hl : 0 + (l.take q).length * 3 = q * 3 := by rw [List.length_take]; omega
    rw [hl, RowOwn]
    refine ⟨F2, [], by simp, TmOwn_iff.2 ⟨s, ?_, ?_, ?_, hs.keep fun g hg => hsame g (fun e => hR2 (e ▸ hg))⟩, by rw [RowOwn]⟩
    · rw [c4, Array.getElem?_setIfInBounds_ne (by omega), Array.getElem?_setIfInBounds_ne (by omega), Array.getElem?_setIfInBounds_self_of_lt (by omega)]
    · rw [c4, Array.getElem?_setIfInBounds_ne (by omega), Array.getElem?_setIfInBounds_self_of_lt (by simp; omega)]
    · rw [c4, Array.getElem?_setIfInBounds_self_of_lt (by simp; omega)]

end Go.Proofs.Ytjhjnkeildeedaa

namespace Go.Proofs.Ytjhjnkeildeedaa
open Go.RowKit

theorem nodeCells_get : ∀ (pre : Nodes) (k n : Int) (m : Nat) (rest : Nodes), (nodeCells (pre ++ (k, n, m) :: rest))[pre.length * 3]? = some (.int .i64 k) ∧ (nodeCells (pre ++ (k, n, m) :: rest))[pre.length * 3 + 1]? = some (.int .i64 n) ∧ (nodeCells (pre ++ (k, n, m) :: rest))[pre.length * 3 + 2]? = some (.int .i64 m)
  | [], k, n, m, rest => by simp [nodeCells]
  | (a, b, c) :: pre, k, n, m, rest => by
    have := nodeCells_get pre k n m rest
    simp only [List.cons_append, nodeCells, List.length_cons]
    rw [show (pre.length + 1) * 3 = pre.length * 3 + 3 by omega]
    simpa using this
theorem flatL_append : ∀ a b : List Tm, flatL (a ++ b) = flatL a ++ flatL b
  | [], b => by rw [List.nil_append, flatL, List.nil_append]
  | t :: a, b => by rw [List.cons_append, flatL, flatL, flatL_append a b, List.append_assoc]

/-- The row rb holds the nodes s. -/
def RowHas (rb : Nat) (s : Nodes) (w : World) : Prop := rb < w.heap.size ∧ ∀ j u, (nodeCells s)[j]? = some u → w.cell? ⟨rb, j, none⟩ = some u
theorem RowHas.only {rb g : Nat} {s : Nodes} {w w' : World} (h : RowHas rb s w) (ho : Only g w w') (hn : rb ≠ g) : RowHas rb s w' :=
  ⟨Nat.lt_of_lt_of_le h.1 ho.size, fun j u hu => (ho.cell (p := ⟨rb, j, none⟩) h.1 hn).trans (h.2 j u hu)⟩

theorem info_term' : (Try.prog.info? 32).map (fun i => (i.zero, i.size, i.bytes)) = some (some (.agg #[.int .i64 0, .int .i64 0, .slice none 0 0]), 3, 40) := by kernel_rfl

theorem VarAt.only {g g' : Nat} {k n : Int} {s : Value} {w w' : World} (h : VarAt g' k n s w) (ho : Only g w w') (hn : g' ≠ g) : VarAt g' k n s w' :=
  (ho.block g' h.facts.1 (fun e => hn (by injection e))).trans h
theorem SlOwn.only {g : Nat} {l : List Tm} {v : Value} {F : List Nat} {w w' : World} (h : SlOwn w l v F) (ho : Only g w w') (hF : ∀ x ∈ F, x < w.heap.size ∧ x ≠ g) : SlOwn w' l v F :=
  h.keep fun x hx => SameAt.of_block (ho.block x (hF x hx).1 (fun e => (hF x hx).2 (by injection e)))

end Go.Proofs.Ytjhjnkeildeedaa
