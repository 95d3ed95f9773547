/-
  impl's formatter: writing texts with operands between them ('write'), decimal numbers.
-/
import Derived.Test.YteeafpnjpcgfaaaGreatFbA
import Derived.Test.YteeafpnjpcgfaaaGreatNum
import Derived.Test.YteeafpnjpcgfaaaGreatTextD
namespace Go.Proofs.YteeafpnjpcgfaaaGreat
open Go.RowKit Go.Shelf
set_option linter.unusedVariables false
set_option linter.unusedSimpArgs false

theorem strCells_app (a b : ByteArray) : Lib.strCells (a ++ b) = Lib.strCells a ++ Lib.strCells b := by
  rw [Lib.strCells_eq, Lib.strCells_eq, Lib.strCells_eq, ByteArray.data_append, Array.toList_append, Lib.byteCells_append]

def ItPost (w : World) (s : ByteArray) (e : Ending) (w' : World) : Prop := e = .returned (.string s) ∧ w' = w
set_option maxRecDepth 100000 in
set_option maxHeartbeats 4000000 in
theorem itoa_any (n : Nat) (hn : n ≤ 20) (w : World) : Calls Tryz.prog 183 #[.int .i64 n] w (ItPost w (decS n)) := by
  have h : n = 0 ∨ n = 1 ∨ n = 2 ∨ n = 3 ∨ n = 4 ∨ n = 5 ∨ n = 6 ∨ n = 7 ∨ n = 8 ∨ n = 9 ∨ n = 10 ∨ n = 11 ∨ n = 12 ∨ n = 13 ∨ n = 14 ∨ n = 15 ∨ n = 16 ∨ n = 17 ∨ n = 18 ∨ n = 19 ∨ n = 20 := by omega
  have HP : Hid (∀ s, s = decS n → ItPost w (decS n) (.returned (.string s)) w) := tuck fun s h => by rw [h]; exact ⟨rfl, rfl⟩
  generalize ItPost w (decS n) = post at *
  rcases h with rfl | rfl | rfl | rfl | rfl | rfl | rfl | rfl | rfl | rfl | rfl | rfl | rfl | rfl | rfl | rfl | rfl | rfl | rfl | rfl | rfl
  all_goals (go_enter Tryz.func183, Tryz.ntmps183; go_wp2; exact HP.out _ (by kernel_rfl))

/-- The first texts, with a text between them. -/
def joinB (bt : ByteArray) (L : List ByteArray) : Nat → ByteArray
  | 0 => ByteArray.mk #[]
  | q + 1 => (if 0 < q then joinB bt L q ++ bt else joinB bt L q) ++ kidS L q
theorem joinB_size (bt : ByteArray) (L : List ByteArray) : ∀ q d, (joinB bt L q).size ≤ (joinB bt L (q + d)).size
  | q, 0 => Nat.le_refl _
  | q, d + 1 => by
    have h := joinB_size bt L q d
    rw [← Nat.add_assoc, joinB]
    split <;> simp only [ByteArray.size_append] <;> omega
theorem joinB_comma (L : List ByteArray) : ∀ q, joinB (ByteArray.mk #[44]) L q = joinN L q
  | 0 => rfl
  | q + 1 => by rw [joinB, joinN, joinB_comma L q]

/-- The formatter in block g, with its text so far. -/
def Fm (B g : Nat) (X : ByteArray) (W : World) : Prop := FIs B g 62 [.iface 53 (.pointer (some ⟨g, 0, none⟩))] (Lib.strCells X) W
def FmP (B g : Nat) (X : ByteArray) (W W' : World) : Prop := FPost B g 62 [.iface 53 (.pointer (some ⟨g, 0, none⟩))] (Lib.strCells X) W W'
def FmPost (B g : Nat) (X : ByteArray) (W : World) (e : Ending) (W' : World) : Prop := e = .returned (.tuple #[]) ∧ FmP B g X W W'
set_option maxRecDepth 100000 in
theorem heads_fm : Heads 62 1 := ⟨by kernel_rfl⟩

theorem FmP.trans {B g : Nat} {X Y : ByteArray} {w w1 w2 : World} (h1 : FmP B g X w w1) (h2 : FmP B g Y w1 w2) : FmP B g Y w w2 := FPost.trans h1 h2
theorem FmP.fm {B g : Nat} {X : ByteArray} {w w1 : World} (h : FmP B g X w w1) : Fm B g X w1 := h.1
theorem FmP.be {B g : Nat} {X : ByteArray} {w w1 : World} (h : FmP B g X w w1) : Below B w w1 := h.2.1
theorem FmP.ok {B g : Nat} {X : ByteArray} {w w1 : World} (h : FmP B g X w w1) : Lib.OthersKept 5 (some g) w w1 := h.2.2
theorem FmP.refl {B g : Nat} {X : ByteArray} {w : World} (h : Fm B g X w) : FmP B g X w w := ⟨h, Below.refl _ _, Lib.OthersKept.refl _ _ _⟩
theorem FmP.alloc {B g : Nat} {X : ByteArray} {w w1 : World} (h : FmP B g X w w1) (hB : B ≤ w1.heap.size) (o : Obj) : FmP B g X w (w1.alloc o) := ⟨h.1.alloc o, h.2.1.alloc hB o, h.2.2.alloc o⟩
theorem FmP.drew {B g : Nat} {X : ByteArray} {w w1 : World} (h : FmP B g X w w1) : FmP B g X w w1.drew := ⟨h.1.drew, h.2.1.drew, h.2.2.drew⟩
theorem Fm.form {B g : Nat} {X : ByteArray} {W : World} (h : Fm B g X W) : W.cell? ⟨g, 2, none⟩ = some (.iface 53 (.pointer (some ⟨g, 0, none⟩))) := FIs.cellR h 0
theorem block_kept {g : Nat} {w w1 : World} (h : Lib.OthersKept 5 (some g) w w1) {b : Nat} {cs : Array Value} {T : TypeId} (hb : w.heap[b]? = some (.cells cs T (0, 0))) (hg : b ≠ g) (hT : T ≠ 5) : w1.heap[b]? = some (.cells cs T (0, 0)) :=
  h b _ hb (fun e => hg (by simpa using e)) (fun c fz e => hT (by simp only [Obj.cells.injEq] at e; exact e.2.1))
theorem VarAt.others {g b : Nat} {k n : Int} {s : Value} {w w1 : World} (hv : VarAt b k n s w) (h : Lib.OthersKept 5 (some g) w w1) (hg : b ≠ g) : VarAt b k n s w1 := block_kept h hv hg (by decide)

theorem wr_any (B g : Nat) (X s : ByteArray) (W : World) (h : Fm B g X W) (hlen : X.size + s.size ≤ 1099511627776) (hB : B ≤ W.heap.size) :
    Calls Tryz.prog 50 #[.pointer (some ⟨g, 0, none⟩), .string s] W fun e W' => e = .returned (.tuple #[.int .i64 s.size, .nilIface]) ∧ FmP B g (X ++ s) W W' := by
  refine (writeF_any B g _ _ _ s W heads_fm (by decide) h (by rw [Lib.strCells_length]; omega) hB).mono ?_
  rintro e W' ⟨h1, h2⟩
  rw [← strCells_app] at h2
  exact ⟨h1, h2⟩

/-- The block holds the terms l, whose operands lie in the world w0. -/
def OpsAt (w0 : World) (bo : Nat) (l : List Tm) (W : World) : Prop := ∃ cs, W.heap[bo]? = some (.cells cs 29 (0, 0)) ∧ ∀ (i : Nat) (h : i < l.length), ∃ s, cs[i * 3]? = some (.int .i64 l[i].kind) ∧ cs[i * 3 + 1]? = some (.int .i64 l[i].num) ∧ cs[i * 3 + 2]? = some s ∧ SlIn w0 0 l[i].kids s
theorem OpsAt.others {w0 : World} {bo g : Nat} {l : List Tm} {w w1 : World} (ho : OpsAt w0 bo l w) (h : Lib.OthersKept 5 (some g) w w1) (hg : bo ≠ g) : OpsAt w0 bo l w1 := by
  obtain ⟨cs, h1, h2⟩ := ho
  exact ⟨cs, block_kept h h1 hg (by decide), h2⟩

/-- 'format' writes the text of t. -/
def FmtOk (w0 : World) (g : Nat) (t : Tm) : Prop := ∀ (v : Value) (W : World) (X : ByteArray), TmIn w0 0 t v → Below w0.heap.size w0 W → Fm w0.heap.size g X W → X.size + t.txt.size ≤ 1099511627776 →
  Calls Tryz.prog 34 #[.pointer (some ⟨g, 0, none⟩), v] W (FmPost w0.heap.size g (X ++ t.txt) W)

set_option maxRecDepth 100000 in
set_option maxHeartbeats 4000000 in
theorem write_any (w0 : World) (g : Nat) (o bt en : ByteArray) (l : List Tm) (bo : Nat) (W : World) (X : ByteArray) (hl : l.length ≤ 8) (hok : ∀ (i : Nat) (h : i < l.length), FmtOk w0 g l[i]) (hW : Below w0.heap.size w0 W) (hO : OpsAt w0 bo l W) (hbo : bo ≠ g) (hF : Fm w0.heap.size g X W)
    (hsz : X.size + o.size + (joinB bt (txtL l) l.length).size + en.size ≤ 1099511627776) :
    Calls Tryz.prog 205 #[.pointer (some ⟨g, 0, none⟩), .string o, .string bt, .string en, .slice (some ⟨bo, 0, none⟩) l.length l.length] W (FmPost w0.heap.size g (X ++ o ++ joinB bt (txtL l) l.length ++ en) W) := by
  obtain ⟨B, hBe⟩ : ∃ B, B = w0.heap.size := ⟨_, rfl⟩
  have HW := tuck hW
  have HOK := tuck hok
  have HO := tuck hO
  have HSZ := tuck hsz
  have HJ := tuck (joinB_size bt (txtL l))
  have hBW : B ≤ W.heap.size := by rw [hBe]; exact hW.size
  have H1 := tuck (wr_any w0.heap.size g X o W hF (by omega) (by omega))
  have HEN : Hid (∀ Y W', Fm w0.heap.size g Y W' → Y.size + en.size ≤ 1099511627776 → w0.heap.size ≤ W'.heap.size → Calls Tryz.prog 50 #[.pointer (some ⟨g, 0, none⟩), .string en] W' fun e W2 => e = .returned (.tuple #[.int .i64 en.size, .nilIface]) ∧ FmP w0.heap.size g (Y ++ en) W' W2) := tuck fun Y W' h1 h2 h3 => wr_any _ g Y en W' h1 h2 h3
  have HBT : Hid (∀ Y W', Fm w0.heap.size g Y W' → Y.size + bt.size ≤ 1099511627776 → w0.heap.size ≤ W'.heap.size → Calls Tryz.prog 50 #[.pointer (some ⟨g, 0, none⟩), .string bt] W' fun e W2 => e = .returned (.tuple #[.int .i64 bt.size, .nilIface]) ∧ FmP w0.heap.size g (Y ++ bt) W' W2) := tuck fun Y W' h1 h2 h3 => wr_any _ g Y bt W' h1 h2 h3
  have HP : Hid (∀ W', FmP w0.heap.size g (X ++ o ++ joinB bt (txtL l) l.length ++ en) W W' → FmPost w0.heap.size g (X ++ o ++ joinB bt (txtL l) l.length ++ en) W (.returned (.tuple #[])) W') := tuck fun W' h => ⟨rfl, h⟩
  generalize FmPost w0.heap.size g (X ++ o ++ joinB bt (txtL l) l.length ++ en) W = post at *
  clear hW hok hO hF hsz
  go_enter Tryz.func205, Tryz.ntmps205
  go_wp2_with fail
  refine H1.out.mono ?_
  rintro e w1 ⟨rfl, hp1⟩
  have HP1 := tuck hp1
  clear hp1 H1
  go_wp2_with fail
  go_loopw [19] (fun i wr => ∃ q : Nat, q ≤ l.length ∧ i = .int .i64 q ∧ FmP w0.heap.size g (X ++ o ++ joinB bt (txtL l) q) W wr) (fun i _ => l.length - (intOf i).toNat)
  case atStart => exact ⟨0, Nat.zero_le _, rfl, by rw [joinB, ba_empty]; exact HP1.out⟩
  case round =>
    obtain ⟨q, hq, rfl, hpr⟩ := hrel
    have HPR := tuck hpr
    clear HP1
    by_cases hlt : q < l.length
    · have hlti : ((q : Int) < (l.length : Int)) := by omega
      have hd : decide ((q : Int) < (l.length : Int)) = true := decide_eq_true hlti
      have hqi : (0 : Int) ≤ (q : Int) := by omega
      obtain ⟨cs, hcs, hops⟩ := (HO.out.others hpr.ok hbo)
      obtain ⟨s, x0, x1, x2, hs⟩ := hops q hlt
      obtain ⟨zc, cc, cf⟩ := block_of_cells hcs
      have r0 : wr.cell? ⟨bo, q * 3, none⟩ = some (.int .i64 l[q].kind) := (cc _).trans x0
      have r1 : wr.cell? ⟨bo, q * 3 + 1, none⟩ = some (.int .i64 l[q].num) := (cc _).trans x1
      have r2 : wr.cell? ⟨bo, q * 3 + 2, none⟩ = some s := (cc _).trans x2
      obtain ⟨sa, sc, rfl⟩ := hs.form
      have hgW : g < wr.heap.size := hpr.fm.lt
      have HVB := tuck (VarAt.new wr l[q].kind l[q].num (.slice sa l[q].kids.length sc))
      have hBr : w0.heap.size ≤ wr.heap.size := Nat.le_trans HW.out.size hpr.be.size
      have hwr : Below w0.heap.size w0 wr := HW.out.trans hpr.be
      have HPA := tuck (hpr.alloc hBr (.cells #[.int .i64 l[q].kind, .int .i64 l[q].num, .slice sa l[q].kids.length sc] 29))
      have HWA : Hid (Below w0.heap.size w0 (wr.alloc (.cells #[.int .i64 l[q].kind, .int .i64 l[q].num, .slice sa l[q].kids.length sc] 29))) := tuck (hwr.alloc hBr _)
      have HBA : Hid (w0.heap.size ≤ (wr.alloc (.cells #[.int .i64 l[q].kind, .int .i64 l[q].num, .slice sa l[q].kids.length sc] 29)).heap.size) := tuck (by simp; omega)
      have HFQ : Hid (∀ (W' : World) (Y : ByteArray), Below w0.heap.size w0 W' → Fm w0.heap.size g Y W' → Y.size + l[q].txt.size ≤ 1099511627776 → Calls Tryz.prog 34 #[.pointer (some ⟨g, 0, none⟩), .agg #[.int .i64 l[q].kind, .int .i64 l[q].num, .slice sa l[q].kids.length sc]] W' (FmPost w0.heap.size g (Y ++ l[q].txt) W')) := tuck fun W' Y h1 h2 h3 => HOK.out q hlt _ W' Y ⟨_, rfl, hs⟩ h1 h2 h3
      have HTX := tuck (kidS_txt l q hlt)
      have hjq := HJ.out (q + 1) (l.length - (q + 1))
      rw [show q + 1 + (l.length - (q + 1)) = l.length by omega] at hjq
      have HSQ : Hid (X.size + o.size + (joinB bt (txtL l) (q + 1)).size ≤ 1099511627776) := tuck (by have := HSZ.out; omega)
      have HJE : Hid (joinB bt (txtL l) (q + 1) = (if 0 < q then joinB bt (txtL l) q ++ bt else joinB bt (txtL l) q) ++ l[q].txt) := tuck (by rw [joinB, HTX.out])
      have HNX : Hid (∀ W', FmP w0.heap.size g (X ++ o ++ joinB bt (txtL l) (q + 1)) W W' → ∃ q' : Nat, q' ≤ l.length ∧ Value.int .i64 ((q : Int) + 1) = .int .i64 q' ∧ FmP w0.heap.size g (X ++ o ++ joinB bt (txtL l) q') W W') := tuck fun W' h => ⟨q + 1, by omega, by simp, h⟩
      have hgn : wr.heap.size ≠ g := by omega
      generalize l[q].kind = tk at *
      generalize l[q].num = tn at *
      generalize l[q].kids.length = tl at *
      generalize l[q].txt = tx at *
      generalize hwa : wr.alloc (.cells #[.int .i64 tk, .int .i64 tn, .slice sa tl sc] 29) = wa at *
      clear HJ hpr hwr hjq HTX hops hcs hs hgW
      by_cases hq0 : 0 < q
      · have hd0 : decide ((0 : Int) < (q : Int)) = true := decide_eq_true (by omega)
        rw [if_pos hq0] at HJE
        have HW2 := tuck (HBT.out _ wa HPA.out.fm (by have h1 := HSQ.out; have h2 := HJE.out; rw [h2] at h1; simp only [ByteArray.size_append] at h1 ⊢; omega) HBA.out)
        go_wp2_with fail
        refine HW2.out.mono ?_
        rintro e w2 ⟨rfl, hp2⟩
        have HP2 := tuck (HPA.out.trans hp2)
        obtain ⟨zv, v0, v1, v2, vf⟩ := (HVB.out.others hp2.ok hgn).facts
        have HW2' : Hid (Below w0.heap.size w0 w2) := tuck (HWA.out.trans hp2.be)
        clear hp2 HW2 HPA HWA
        have HF3 := tuck (HFQ.out w2 _ HW2'.out HP2.out.fm (by have h1 := HSQ.out; have h2 := HJE.out; rw [h2] at h1; simp only [ByteArray.size_append] at h1 ⊢; omega))
        go_wp2_with fail
        refine HF3.out.mono ?_
        rintro e w3 ⟨rfl, hp3⟩
        have HP3 : Hid (FmP w0.heap.size g (X ++ o ++ joinB bt (txtL l) (q + 1)) W w3) := tuck (by
          have h := HP2.out.trans hp3
          rw [HJE.out]
          simpa only [ByteArray.append_assoc] using h)
        have HNQ := tuck (HNX.out w3 HP3.out)
        clear hp3 HF3 HJE HSQ HNX
        go_wp2_with fail
        go_roundw
        case rel => exact HNQ.out
        case measure => simp [intOf]; omega
      · have hd0 : decide ((0 : Int) < (q : Int)) = false := decide_eq_false (by omega)
        rw [if_neg hq0] at HJE
        obtain ⟨zv, v0, v1, v2, vf⟩ := HVB.out.facts
        have HF3 := tuck (HFQ.out wa _ HWA.out HPA.out.fm (by have h1 := HSQ.out; have h2 := HJE.out; rw [h2] at h1; simp only [ByteArray.size_append] at h1 ⊢; omega))
        go_wp2_with fail
        refine HF3.out.mono ?_
        rintro e w3 ⟨rfl, hp3⟩
        have HP3 : Hid (FmP w0.heap.size g (X ++ o ++ joinB bt (txtL l) (q + 1)) W w3) := tuck (by
          have h := HPA.out.trans hp3
          rw [HJE.out]
          simpa only [ByteArray.append_assoc] using h)
        have HNQ := tuck (HNX.out w3 HP3.out)
        clear hp3 HF3 HJE HSQ HNX
        go_wp2_with fail
        go_roundw
        case rel => exact HNQ.out
        case measure => simp [intOf]; omega
    · have hd : decide ((q : Int) < (l.length : Int)) = false := decide_eq_false (by omega)
      obtain rfl : q = l.length := by omega
      have H2 := tuck (HEN.out _ wr HPR.out.fm (by have h1 := HSZ.out; simp only [ByteArray.size_append]; omega) (Nat.le_trans HW.out.size HPR.out.be.size))
      go_wp2_with fail
      refine H2.out.mono ?_
      rintro e w2 ⟨rfl, hp2⟩
      have HP2 := tuck (HPR.out.trans hp2)
      clear hp2 H2
      go_wp2_with fail
      go_end0
      exact HP.out _ HP2.out

end Go.Proofs.YteeafpnjpcgfaaaGreat
