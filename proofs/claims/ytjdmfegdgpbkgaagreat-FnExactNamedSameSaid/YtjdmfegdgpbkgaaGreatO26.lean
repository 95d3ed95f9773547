/-
  LawT.
-/
import Derived.Test.YtjdmfegdgpbkgaaGreatO01
import Derived.Test.YtjdmfegdgpbkgaaGreatO07
import Derived.Test.YtjdmfegdgpbkgaaGreatO12
import Derived.Test.YtjdmfegdgpbkgaaGreatO15
import Derived.Laws.MakeOwn
import Derived.ProofKit
import Derived.StillTailTactics
import Derived.Test.YtjdmfegdgpbkgaaGreatProg
import Derived.WalkSpells
namespace Go.Proofs.YtjdmfegdgpbkgaaGreat
open Go.RowKit
def EqPost (w : World) (b : Bool) (e : Ending) (w' : World) : Prop := e = .returned (.bool b) ∧ Below w.heap.size w w'
end Go.Proofs.YtjdmfegdgpbkgaaGreat
namespace Go.Proofs.YtjdmfegdgpbkgaaGreat
open Go.RowKit
end Go.Proofs.YtjdmfegdgpbkgaaGreat
namespace Go.Proofs.YtjdmfegdgpbkgaaGreat
open Go.RowKit
structure OnlyIn (F : List Nat) (w w' : World) : Prop where
 os : w'.os = w.os
 tape : w'.tape = w.tape
 output : w'.output = w.output
 size : w'.heap.size = w.heap.size
 block : ∀ i, i ∉ F → w'.heap[i]? = w.heap[i]?
 frozen : ∀ p, w'.frozen? p = w.frozen? p
theorem OnlyIn.refl (F : List Nat) (w : World) : OnlyIn F w w := ⟨rfl, rfl, rfl, rfl, fun _ _ => rfl, fun _ => rfl⟩
theorem OnlyIn.trans {F : List Nat} {a b c : World} (h : OnlyIn F a b) (k : OnlyIn F b c) : OnlyIn F a c :=
 ⟨k.os.trans h.os, k.tape.trans h.tape, k.output.trans h.output, k.size.trans h.size, fun i hi => (k.block i hi).trans (h.block i hi), fun p => (k.frozen p).trans (h.frozen p)⟩
theorem OnlyIn.mono {F G : List Nat} {a b : World} (h : OnlyIn F a b) (hs : ∀ i ∈ F, i ∈ G) : OnlyIn G a b := ⟨h.os, h.tape, h.output, h.size, fun i hi => h.block i (fun hf => hi (hs i hf)), h.frozen⟩
theorem OnlyIn.setCell {F : List Nat} {a : World} {p : Addr} (hp : p.block ∈ F) (u : Value) : OnlyIn F a (a.setCell p u) :=
 ⟨rfl, rfl, rfl, by simp [World.setCell], fun i hi => Below.heap_setCell a p u i (fun e => hi (by rw [e]; exact hp)), fun _ => World.frozen?_setCell _ _ _ _⟩
theorem OnlyIn.sameAt {F : List Nat} {a b : World} {g : Nat} (h : OnlyIn F a b) (hg : g ∉ F) : SameAt a b g := SameAt.of_block (h.block g hg)
theorem sameAt_set {w : World} {p : Addr} {u : Value} {g : Nat} (h : g ≠ p.block) : SameAt w (w.setCell p u) g := SameAt.of_block (Below.heap_setCell w p u g h)
theorem SameAt.trans {a b c : World} {g : Nat} (h : SameAt a b g) (k : SameAt b c g) : SameAt a c g := fun i => ⟨(k i).1.trans (h i).1, (k i).2.trans (h i).2⟩
theorem mark_step {wr : World} {l : List Tm} {k : Int} {q b : Nat} {F : List Nat} (hr : RowOwn wr (markL (l.take q) k ++ l.drop q) b 0 F) (hn : (b :: F).Nodup) (hq : q < l.length) :
  ∃ s G, wr.cell? ⟨b, q * 3, none⟩ = some (.int .i64 l[q].kind) ∧ wr.cell? ⟨b, q * 3 + 1, none⟩ = some (.int .i64 l[q].num) ∧ wr.cell? ⟨b, q * 3 + 2, none⟩ = some s ∧ SlOwn wr l[q].kids s G ∧ b ∉ G ∧ G.Nodup ∧
   ∀ (kq : Int) (w2 : World), kq = k + 2 * sizes (l.take q) → SlOwn w2 (markL l[q].kids (kq + 2)) s G → OnlyIn G ((wr.setCell ⟨b, q * 3, none⟩ (.int .i64 kq)).setCell ⟨b, q * 3 + 1, none⟩ (.int .i64 (kq + 1))) w2 →
    RowOwn w2 (markL (l.take (q + 1)) k ++ l.drop (q + 1)) b 0 F ∧ OnlyIn (b :: F) wr w2 := by
 rw [List.drop_eq_getElem_cons hq] at hr
 obtain ⟨F1, F2, rfl, h1, h2⟩ := RowOwn_append.1 hr
 rw [RowOwn] at h2
 obtain ⟨G, F3, rfl, h3, h4⟩ := h2
 have hlen : (markL (l.take q) k).length = q := by rw [markL_length, List.length_take]; omega
 rw [hlen, Nat.zero_add] at h3 h4
 obtain ⟨s, c0, c1, c2, hs⟩ := TmOwn_iff.1 h3
 rw [List.nodup_cons] at hn
 obtain ⟨hb, hn⟩ := hn
 rw [List.nodup_append] at hn
 obtain ⟨n1, n2, n3⟩ := hn
 rw [List.nodup_append] at n2
 obtain ⟨n4, n5, n6⟩ := n2
 have hbG : b ∉ G := fun h => hb (by simp [h])
 refine ⟨s, G, c0, c1, c2, hs, hbG, n4, fun kq w2 hk hs2 ho => ?_⟩
 have hW : OnlyIn (b :: G) wr w2 := ((OnlyIn.setCell (F := b :: G) (p := ⟨b, q * 3, none⟩) (by simp) _).trans (OnlyIn.setCell (p := ⟨b, q * 3 + 1, none⟩) (by simp) _)).trans (ho.mono (fun i hi => by simp [hi]))
 have hcell : ∀ i, i ≠ q * 3 → i ≠ q * 3 + 1 → w2.cell? ⟨b, i, none⟩ = wr.cell? ⟨b, i, none⟩ := fun i i0 i1 => by
  rw [((ho.sameAt hbG) i).1, World.cell?_setCell_other _ _ _ _ (fun e => i1 (by injection e with _ e; exact e.symm)), World.cell?_setCell_other _ _ _ _ (fun e => i0 (by injection e with _ e; exact e.symm))]
 refine ⟨?_, hW.mono (fun i hi => ?_)⟩
 ·rw [markL_take_succ l k q hq, ← hk, List.append_assoc, RowOwn_append]
  refine ⟨F1, G ++ F3, rfl, h1.keep (fun i hi => ?_) (fun g hg => hW.sameAt ?_), ?_⟩
  ·rw [hlen] at hi
   rw [Nat.zero_add]
   exact hcell i (by omega) (by omega)
  ·intro h
   rcases List.mem_cons.1 h with e | h
   ·exact hb (by rw [← e]; simp [hg])
   ·exact n3 g hg g (by simp [h]) rfl
  ·rw [List.singleton_append, RowOwn, hlen, Nat.zero_add]
   refine ⟨G, F3, rfl, ?_, h4.keep (fun i _ => hcell _ (by omega) (by omega)) (fun g hg => hW.sameAt ?_)⟩
   ·rw [Tm.mark_eq]
    refine TmOwn_iff.2 ⟨s, ?_, ?_, ?_, hs2⟩
    ·rw [((ho.sameAt hbG) _).1, World.cell?_setCell_other _ _ _ _ (fun e => by injection e with _ e; omega)]
     exact World.cell?_setCell_same wr _ _ c0
    ·rw [((ho.sameAt hbG) _).1]
     exact World.cell?_setCell_same _ _ _ ((World.cell?_setCell_other _ _ _ _ (fun e => by injection e with _ e; omega)).trans c1)
    ·rw [hcell _ (by omega) (by omega)]
     exact c2
   ·intro h
    rcases List.mem_cons.1 h with e | h
    ·exact hb (by rw [← e]; simp [hg])
    ·exact n6 g h g hg rfl
 ·rcases List.mem_cons.1 hi with e | h
  ·rw [e]; simp
  ·simp [h]
def MarkPost (F : List Nat) (l : List Tm) (v : Value) (k : Int) (w : World) (e : Ending) (w' : World) : Prop := e = .returned (.int .i64 (k + 2 * sizes l)) ∧ SlOwn w' (markL l k) v F ∧ OnlyIn F w w'
structure But (F : List Nat) (w w' : World) : Prop where
 os : w'.os = w.os
 tape : w'.tape = w.tape
 output : w'.output = w.output
 size : w.heap.size ≤ w'.heap.size
 block : ∀ i, i < w.heap.size → i ∉ F → w'.heap[i]? = w.heap[i]?
theorem But.below {F : List Nat} {a b w : World} {B : Nat} (h : But F a b) (hw : Below B w a) (hB : B ≤ a.heap.size) (hF : ∀ g ∈ F, B ≤ g) : Below B w b :=
 ⟨h.os.trans hw.os, h.tape.trans hw.tape, h.output.trans hw.output, Nat.le_trans hw.size h.size, fun i hi => (h.block i (by omega) (fun hf => by have := hF i hf; omega)).trans (hw.block i hi)⟩
def MarkTPost (F : List Nat) (l : List Tm) (s : Value) (k : Int) (w : World) (e : Ending) (w' : World) : Prop := e = .returned (.int .i64 (k + 2 * sizes l)) ∧ SlOwn w' (markL l k) s F ∧ But F w w'
end Go.Proofs.YtjdmfegdgpbkgaaGreat
namespace Go.Proofs.YtjdmfegdgpbkgaaGreat
open Go.RowKit
def IntPost' (w : World) (n : Int) (e : Ending) (w' : World) : Prop := e = .returned (.int .i64 n) ∧ Below w.heap.size w w'
end Go.Proofs.YtjdmfegdgpbkgaaGreat
namespace Go.Proofs.YtjdmfegdgpbkgaaGreat
open Go.RowKit
end Go.Proofs.YtjdmfegdgpbkgaaGreat
