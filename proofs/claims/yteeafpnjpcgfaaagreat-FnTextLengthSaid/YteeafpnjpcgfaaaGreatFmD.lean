/-
  impl.FormatTerm.
-/
import Derived.Test.YteeafpnjpcgfaaaGreatFmC
namespace Go.Proofs.YteeafpnjpcgfaaaGreat
open Go.RowKit Go.Shelf
set_option linter.unusedVariables false
set_option linter.unusedSimpArgs false

set_option maxRecDepth 100000 in
set_option maxHeartbeats 4000000 in
theorem format_of (w0 : World) (g : Nat) (t : Tm) (hk : 1 ≤ t.kind ∧ t.kind ≤ 16) (f : Nat) (hm : ∀ n w, (method (n + 1) (kT t.kind) (.agg #[]) "loop.example/depkernel/impl.accept").run Tryz.prog w = .ok (f, .agg #[]) w)
    (hna : ∀ n w, (nilAhead (n + 1) (kT t.kind) (.agg #[]) "loop.example/depkernel/impl.accept").run Tryz.prog w = .ok (some false) w) (hcf : ∀ args w, (callFunc f args).run Tryz.prog w = .ok (.enter f args) w)
    (hacc : ∀ (a : Option Addr) (c : Nat), SlIn w0 0 t.kids (.slice a t.kids.length c) → ∀ (W : World) (X : ByteArray), Below w0.heap.size w0 W → Fm w0.heap.size g X W → X.size + t.txt.size ≤ 1099511627776 →
      Calls Tryz.prog f #[.agg #[], .iface 53 (.pointer (some ⟨g, 0, none⟩)), .agg #[.int .i64 t.kind, .int .i64 t.num, .slice a t.kids.length c]] W (FmPost w0.heap.size g (X ++ t.txt) W)) : FmtOk w0 g t := by
  rintro v W X ⟨s, rfl, hs⟩ hW hF hsz
  obtain ⟨a, c, rfl⟩ := hs.form
  have hB : w0.heap.size ≤ W.heap.size := hW.size
  have hgW : g < W.heap.size := FIs.lt hF
  have HK := tuck (kindOf_any t.kind t.num (.slice a t.kids.length c))
  have e1 : kindRes t.kind = .tuple #[.iface (kT t.kind) (.agg #[]), .bool true] := by unfold kindRes; rw [if_pos hk]
  rw [e1] at HK
  have HACC := tuck (hacc a c hs)
  clear e1 hacc hs
  have hmf : ∀ (fn : Fn) (first cap : Array Value) (w : World), (Instr.makeFunc fn first cap).run Tryz.prog w = .ok (.func fn first cap) w := fun _ _ _ _ => rfl
  have HPB := tuck (((FmP.refl hF).alloc hB (.cells #[.int .i64 t.kind, .int .i64 t.num, .slice a t.kids.length c] 29)).alloc (by simp; omega) (.cells #[.int .i64 t.kind, .int .i64 t.num, .slice a t.kids.length c] 29))
  have HBB := tuck ((hW.alloc hB (.cells #[.int .i64 t.kind, .int .i64 t.num, .slice a t.kids.length c] 29)).alloc (by simp; omega) (.cells #[.int .i64 t.kind, .int .i64 t.num, .slice a t.kids.length c] 29))
  have HVB := tuck ((VarAt.new W t.kind t.num (.slice a t.kids.length c)).below (below1 _ (.cells #[.int .i64 t.kind, .int .i64 t.num, .slice a t.kids.length c] 29)))
  have hbg : W.heap.size ≠ g := by omega
  generalize kT t.kind = T at *
  generalize t.kind = tk at *
  generalize t.num = tn at *
  generalize t.kids.length = tl at *
  generalize t.txt = tx at *
  clear hk hF hW
  go_enter Tryz.func34, Tryz.ntmps34
  go_wp2_with (go_at_call 60; refine (HK.out _).mono ?_; rintro e w1 ⟨rfl, rfl⟩)
  generalize ((W.alloc (.cells #[.int .i64 tk, .int .i64 tn, .slice a tl c] 29)).alloc (.cells #[.int .i64 tk, .int .i64 tn, .slice a tl c] 29)) = WB at *
  generalize W.heap.size = bb at *
  obtain ⟨zb, v0, v1, v2, vf⟩ := HVB.out.facts
  have zg : g < WB.heap.size := HPB.out.fm.lt
  have cg : WB.cell? ⟨g, 2, none⟩ = some (.iface 53 (.pointer (some ⟨g, 0, none⟩))) := HPB.out.fm.form
  have HS0 : Hid ((fun w' : World => g < w'.heap.size ∧ bb < w'.heap.size ∧ w'.cell? ⟨g, 2, none⟩ = some (.iface 53 (.pointer (some ⟨g, 0, none⟩))) ∧ w'.cell? ⟨bb, 0, none⟩ = some (.int .i64 tk) ∧ w'.cell? ⟨bb, 1, none⟩ = some (.int .i64 tn) ∧ w'.cell? ⟨bb, 2, none⟩ = some (.slice a tl c)) WB.drew) := tuck ⟨zg, zb, cg, v0, v1, v2⟩
  have HSK : Hid (∀ w', FmP w0.heap.size g (X ++ tx) WB.drew w' → (fun w' : World => g < w'.heap.size ∧ bb < w'.heap.size ∧ w'.cell? ⟨g, 2, none⟩ = some (.iface 53 (.pointer (some ⟨g, 0, none⟩))) ∧ w'.cell? ⟨bb, 0, none⟩ = some (.int .i64 tk) ∧ w'.cell? ⟨bb, 1, none⟩ = some (.int .i64 tn) ∧ w'.cell? ⟨bb, 2, none⟩ = some (.slice a tl c)) w') := tuck fun w' h => by
    obtain ⟨zb', u0, u1, u2, -⟩ := ((show VarAt bb _ _ _ WB.drew from HVB.out).others h.ok hbg).facts
    exact ⟨h.fm.lt, zb', h.fm.form, u0, u1, u2⟩
  have HC := tuck (HACC.out WB.drew X HBB.out.drew HPB.out.fm.drew hsz)
  have HP : Hid (∀ W', FmP w0.heap.size g (X ++ tx) WB.drew W' → FmPost w0.heap.size g (X ++ tx) W (.returned (.tuple #[])) W') := tuck fun W' h => ⟨rfl, HPB.out.drew.trans h⟩
  generalize FmPost w0.heap.size g (X ++ tx) W = post at *
  clear HVB HBB HPB HACC hsz hB hgW zb v0 v1 v2 vf zg cg
  go_region_held3 (fun w' : World => g < w'.heap.size ∧ bb < w'.heap.size ∧ w'.cell? ⟨g, 2, none⟩ = some (.iface 53 (.pointer (some ⟨g, 0, none⟩))) ∧ w'.cell? ⟨bb, 0, none⟩ = some (.int .i64 tk) ∧ w'.cell? ⟨bb, 1, none⟩ = some (.int .i64 tn) ∧ w'.cell? ⟨bb, 2, none⟩ = some (.slice a tl c)) (first | exact HS0.out | exact HSK.out _ HP2.out) (((with_reducible refine HC.out.mono ?_); rintro e w' ⟨rfl, hp⟩; have HP2 := tuck hp; clear hp))
  go_wp2_with fail
  go_end0
  exact HP.out _ HP2.out

theorem txt_1 (n : Nat) (L : List Tm) : (Tm.mk 1 n L).txt = ByteArray.mk #[35] ++ decS n := by
  simp [Tm.txt, txtOf]
theorem txt_2 (n : Nat) (L : List Tm) : (Tm.mk 2 n L).txt = ByteArray.mk #[42] ++ decS n := by
  simp [Tm.txt, txtOf]
theorem txt_3 (n : Int) (t0 t1 : Tm) : (Tm.mk 3 n [t0, t1]).txt = ByteArray.mk #[40] ++ joinB (ByteArray.mk #[62]) (txtL [t0, t1]) 2 ++ ByteArray.mk #[41] := by
  apply ByteArray.ext
  simp [Tm.txt, txtOf, txtL, joinB, joinN, kidS, ByteArray.data_append]
theorem txt_4 (n : Int) (t0 t1 : Tm) : (Tm.mk 4 n [t0, t1]).txt = ByteArray.mk #[91] ++ joinB (ByteArray.mk #[93]) (txtL [t0, t1]) 2 ++ ByteArray.mk #[] := by
  apply ByteArray.ext
  simp [Tm.txt, txtOf, txtL, joinB, joinN, kidS, ByteArray.data_append]
theorem txt_5 (n : Int) (t0 t1 : Tm) : (Tm.mk 5 n [t0, t1]).txt = ByteArray.mk #[40] ++ joinB (ByteArray.mk #[32]) (txtL [t0, t1]) 2 ++ ByteArray.mk #[41] := by
  apply ByteArray.ext
  simp [Tm.txt, txtOf, txtL, joinB, joinN, kidS, ByteArray.data_append]
theorem txt_6 (n : Int) (L : List Tm) : (Tm.mk 6 n L).txt = ByteArray.mk #[78] := by
  simp [Tm.txt, txtOf]
theorem txt_7 (n : Int) (L : List Tm) : (Tm.mk 7 n L).txt = ByteArray.mk #[48] := by
  simp [Tm.txt, txtOf]
theorem txt_8 (n : Int) (t0 : Tm) : (Tm.mk 8 n [t0]).txt = ByteArray.mk #[43] ++ joinB (ByteArray.mk #[]) (txtL [t0]) 1 ++ ByteArray.mk #[] := by
  apply ByteArray.ext
  simp [Tm.txt, txtOf, txtL, joinB, joinN, kidS, ByteArray.data_append]
theorem txt_9 (n : Int) (t0 t1 t2 t3 : Tm) : (Tm.mk 9 n [t0, t1, t2, t3]).txt = ByteArray.mk #[60] ++ joinB (ByteArray.mk #[44]) (txtL [t0, t1, t2, t3]) 4 ++ ByteArray.mk #[62] := by
  apply ByteArray.ext
  simp [Tm.txt, txtOf, txtL, joinB, joinN, kidS, ByteArray.data_append]
theorem txt_10 (n : Int) (t0 t1 t2 : Tm) : (Tm.mk 10 n [t0, t1, t2]).txt = ByteArray.mk #[123] ++ joinB (ByteArray.mk #[44]) (txtL [t0, t1, t2]) 3 ++ ByteArray.mk #[125] := by
  apply ByteArray.ext
  simp [Tm.txt, txtOf, txtL, joinB, joinN, kidS, ByteArray.data_append]
theorem txt_11 (n : Int) (t0 : Tm) : (Tm.mk 11 n [t0]).txt = ByteArray.mk #[33] ++ joinB (ByteArray.mk #[]) (txtL [t0]) 1 ++ ByteArray.mk #[] := by
  apply ByteArray.ext
  simp [Tm.txt, txtOf, txtL, joinB, joinN, kidS, ByteArray.data_append]
theorem txt_12 (n : Int) (t0 t1 t2 : Tm) : (Tm.mk 12 n [t0, t1, t2]).txt = ByteArray.mk #[64, 60] ++ joinB (ByteArray.mk #[44]) (txtL [t0, t1, t2]) 3 ++ ByteArray.mk #[62] := by
  apply ByteArray.ext
  simp [Tm.txt, txtOf, txtL, joinB, joinN, kidS, ByteArray.data_append]
theorem txt_13 (n : Int) (t0 t1 : Tm) : (Tm.mk 13 n [t0, t1]).txt = ByteArray.mk #[40] ++ joinB (ByteArray.mk #[42]) (txtL [t0, t1]) 2 ++ ByteArray.mk #[41] := by
  apply ByteArray.ext
  simp [Tm.txt, txtOf, txtL, joinB, joinN, kidS, ByteArray.data_append]
theorem txt_14 (n : Int) (t0 t1 t2 : Tm) : (Tm.mk 14 n [t0, t1, t2]).txt = ByteArray.mk #[124] ++ joinB (ByteArray.mk #[44]) (txtL [t0, t1, t2]) 3 ++ ByteArray.mk #[124] := by
  apply ByteArray.ext
  simp [Tm.txt, txtOf, txtL, joinB, joinN, kidS, ByteArray.data_append]
theorem txt_15 (n : Int) (t0 : Tm) : (Tm.mk 15 n [t0]).txt = ByteArray.mk #[94] ++ joinB (ByteArray.mk #[]) (txtL [t0]) 1 ++ ByteArray.mk #[] := by
  apply ByteArray.ext
  simp [Tm.txt, txtOf, txtL, joinB, joinN, kidS, ByteArray.data_append]
theorem txt_16 (n : Int) (t0 : Tm) : (Tm.mk 16 n [t0]).txt = ByteArray.mk #[95] ++ joinB (ByteArray.mk #[]) (txtL [t0]) 1 ++ ByteArray.mk #[] := by
  apply ByteArray.ext
  simp [Tm.txt, txtOf, txtL, joinB, joinN, kidS, ByteArray.data_append]
theorem len_two {α : Type} {l : List α} (h : l.length = 2) : ∃ a b, l = [a, b] := by
  match l, h with
  | [a, b], _ => exact ⟨a, b, rfl⟩
theorem len_three {α : Type} {l : List α} (h : l.length = 3) : ∃ a b c, l = [a, b, c] := by
  match l, h with
  | [a, b, c], _ => exact ⟨a, b, c, rfl⟩
theorem len_four {α : Type} {l : List α} (h : l.length = 4) : ∃ a b c d, l = [a, b, c, d] := by
  match l, h with
  | [a, b, c, d], _ => exact ⟨a, b, c, d, rfl⟩

set_option maxRecDepth 100000 in
set_option maxHeartbeats 4000000 in
/-- A term whose nodes are well formed is written out. -/
theorem fmtOk_any (w0 : World) (g : Nat) : ∀ l : List Tm, allsOk l → ∀ (i : Nat) (h : i < l.length), FmtOk w0 g l[i] := by
  intro l
  induction l using Tm.ind with
  | h l ih =>
    intro hall i hi
    have hok := (allsOk_iff _).1 hall _ (List.getElem_mem hi)
    have hkids := ih i hi
    obtain ⟨t, ht⟩ : ∃ t, t = l[i] := ⟨_, rfl⟩
    rw [← ht] at hok hkids ⊢
    obtain ⟨k, n, L⟩ := t
    obtain ⟨hr, hal⟩ := (Tm.allOk_iff _).1 hok
    have hK : ∀ (j : Nat) (hj : j < L.length), FmtOk w0 g L[j] := hkids hal
    obtain ⟨ha, hn0, hnm⟩ := hr
    simp only [Tm.kind, Tm.num, Tm.kids] at ha hn0 hnm
    have hk16 : 1 ≤ k ∧ k ≤ 16 := by
      unfold arity at ha
      repeat (split at ha; · omega)
      omega
    have hkk : k = 1 ∨ k = 2 ∨ k = 3 ∨ k = 4 ∨ k = 5 ∨ k = 6 ∨ k = 7 ∨ k = 8 ∨ k = 9 ∨ k = 10 ∨ k = 11 ∨ k = 12 ∨ k = 13 ∨ k = 14 ∨ k = 15 ∨ k = 16 := by omega
    clear ih hkids hok hal ht
    rcases hkk with rfl | rfl | rfl | rfl | rfl | rfl | rfl | rfl | rfl | rfl | rfl | rfl | rfl | rfl | rfl | rfl
    · obtain ⟨m, rfl⟩ : ∃ m : Nat, n = (m : Int) := ⟨n.toNat, by omega⟩
      have hm20 : m ≤ 20 := by
        have h : mostN 1 ≤ 20 := by decide
        omega
      refine format_of w0 g _ hk16 175 (fun _ _ => by kernel_rfl) (fun _ _ => by kernel_rfl) (fun _ _ => by kernel_rfl) ?_
      intro a c hs W X hW hF hsz
      rw [txt_1] at hsz ⊢
      exact acc_var w0 g m hm20 _ W X hW hF hsz
    · obtain ⟨m, rfl⟩ : ∃ m : Nat, n = (m : Int) := ⟨n.toNat, by omega⟩
      have hm20 : m ≤ 20 := by
        have h : mostN 2 ≤ 20 := by decide
        omega
      refine format_of w0 g _ hk16 180 (fun _ _ => by kernel_rfl) (fun _ _ => by kernel_rfl) (fun _ _ => by kernel_rfl) ?_
      intro a c hs W X hW hF hsz
      rw [txt_2] at hsz ⊢
      exact acc_sort w0 g m hm20 _ W X hW hF hsz
    · have hl : L.length = 2 := by
        have h : arity 3 = 2 := by kernel_rfl
        omega
      obtain ⟨t0, t1, rfl⟩ : ∃ t0 t1, L = [t0, t1] := len_two hl
      refine format_of w0 g _ hk16 198 (fun _ _ => by kernel_rfl) (fun _ _ => by kernel_rfl) (fun _ _ => by kernel_rfl) ?_
      intro a c hs W X hW hF hsz
      rw [txt_3] at hsz ⊢
      exact acc_pi w0 g n t0 (hK 0 (by simp)) t1 (hK 1 (by simp)) a c hs W X hW hF hsz
    · have hl : L.length = 2 := by
        have h : arity 4 = 2 := by kernel_rfl
        omega
      obtain ⟨t0, t1, rfl⟩ : ∃ t0 t1, L = [t0, t1] := len_two hl
      refine format_of w0 g _ hk16 201 (fun _ _ => by kernel_rfl) (fun _ _ => by kernel_rfl) (fun _ _ => by kernel_rfl) ?_
      intro a c hs W X hW hF hsz
      rw [txt_4] at hsz ⊢
      exact acc_lam w0 g n t0 (hK 0 (by simp)) t1 (hK 1 (by simp)) a c hs W X hW hF hsz
    · have hl : L.length = 2 := by
        have h : arity 5 = 2 := by kernel_rfl
        omega
      obtain ⟨t0, t1, rfl⟩ : ∃ t0 t1, L = [t0, t1] := len_two hl
      refine format_of w0 g _ hk16 203 (fun _ _ => by kernel_rfl) (fun _ _ => by kernel_rfl) (fun _ _ => by kernel_rfl) ?_
      intro a c hs W X hW hF hsz
      rw [txt_5] at hsz ⊢
      exact acc_app w0 g n t0 (hK 0 (by simp)) t1 (hK 1 (by simp)) a c hs W X hW hF hsz
    · refine format_of w0 g _ hk16 206 (fun _ _ => by kernel_rfl) (fun _ _ => by kernel_rfl) (fun _ _ => by kernel_rfl) ?_
      intro a c hs W X hW hF hsz
      rw [txt_6] at hsz ⊢
      exact acc_nat w0 g n _ W X hW hF hsz
    · refine format_of w0 g _ hk16 208 (fun _ _ => by kernel_rfl) (fun _ _ => by kernel_rfl) (fun _ _ => by kernel_rfl) ?_
      intro a c hs W X hW hF hsz
      rw [txt_7] at hsz ⊢
      exact acc_zero w0 g n _ W X hW hF hsz
    · have hl : L.length = 1 := by
        have h : arity 8 = 1 := by kernel_rfl
        omega
      obtain ⟨t0, rfl⟩ : ∃ t0, L = [t0] := List.length_eq_one_iff.1 hl
      refine format_of w0 g _ hk16 211 (fun _ _ => by kernel_rfl) (fun _ _ => by kernel_rfl) (fun _ _ => by kernel_rfl) ?_
      intro a c hs W X hW hF hsz
      rw [txt_8] at hsz ⊢
      exact acc_succ w0 g n t0 (hK 0 (by simp)) a c hs W X hW hF hsz
    · have hl : L.length = 4 := by
        have h : arity 9 = 4 := by kernel_rfl
        omega
      obtain ⟨t0, t1, t2, t3, rfl⟩ : ∃ t0 t1 t2 t3, L = [t0, t1, t2, t3] := len_four hl
      refine format_of w0 g _ hk16 214 (fun _ _ => by kernel_rfl) (fun _ _ => by kernel_rfl) (fun _ _ => by kernel_rfl) ?_
      intro a c hs W X hW hF hsz
      rw [txt_9] at hsz ⊢
      exact acc_elim w0 g n t0 (hK 0 (by simp)) t1 (hK 1 (by simp)) t2 (hK 2 (by simp)) t3 (hK 3 (by simp)) a c hs W X hW hF hsz
    · have hl : L.length = 3 := by
        have h : arity 10 = 3 := by kernel_rfl
        omega
      obtain ⟨t0, t1, t2, rfl⟩ : ∃ t0 t1 t2, L = [t0, t1, t2] := len_three hl
      refine format_of w0 g _ hk16 217 (fun _ _ => by kernel_rfl) (fun _ _ => by kernel_rfl) (fun _ _ => by kernel_rfl) ?_
      intro a c hs W X hW hF hsz
      rw [txt_10] at hsz ⊢
      exact acc_id w0 g n t0 (hK 0 (by simp)) t1 (hK 1 (by simp)) t2 (hK 2 (by simp)) a c hs W X hW hF hsz
    · have hl : L.length = 1 := by
        have h : arity 11 = 1 := by kernel_rfl
        omega
      obtain ⟨t0, rfl⟩ : ∃ t0, L = [t0] := List.length_eq_one_iff.1 hl
      refine format_of w0 g _ hk16 219 (fun _ _ => by kernel_rfl) (fun _ _ => by kernel_rfl) (fun _ _ => by kernel_rfl) ?_
      intro a c hs W X hW hF hsz
      rw [txt_11] at hsz ⊢
      exact acc_refl w0 g n t0 (hK 0 (by simp)) a c hs W X hW hF hsz
    · have hl : L.length = 3 := by
        have h : arity 12 = 3 := by kernel_rfl
        omega
      obtain ⟨t0, t1, t2, rfl⟩ : ∃ t0 t1 t2, L = [t0, t1, t2] := len_three hl
      refine format_of w0 g _ hk16 221 (fun _ _ => by kernel_rfl) (fun _ _ => by kernel_rfl) (fun _ _ => by kernel_rfl) ?_
      intro a c hs W X hW hF hsz
      rw [txt_12] at hsz ⊢
      exact acc_move w0 g n t0 (hK 0 (by simp)) t1 (hK 1 (by simp)) t2 (hK 2 (by simp)) a c hs W X hW hF hsz
    · have hl : L.length = 2 := by
        have h : arity 13 = 2 := by kernel_rfl
        omega
      obtain ⟨t0, t1, rfl⟩ : ∃ t0 t1, L = [t0, t1] := len_two hl
      refine format_of w0 g _ hk16 223 (fun _ _ => by kernel_rfl) (fun _ _ => by kernel_rfl) (fun _ _ => by kernel_rfl) ?_
      intro a c hs W X hW hF hsz
      rw [txt_13] at hsz ⊢
      exact acc_sigma w0 g n t0 (hK 0 (by simp)) t1 (hK 1 (by simp)) a c hs W X hW hF hsz
    · have hl : L.length = 3 := by
        have h : arity 14 = 3 := by kernel_rfl
        omega
      obtain ⟨t0, t1, t2, rfl⟩ : ∃ t0 t1 t2, L = [t0, t1, t2] := len_three hl
      refine format_of w0 g _ hk16 225 (fun _ _ => by kernel_rfl) (fun _ _ => by kernel_rfl) (fun _ _ => by kernel_rfl) ?_
      intro a c hs W X hW hF hsz
      rw [txt_14] at hsz ⊢
      exact acc_pair w0 g n t0 (hK 0 (by simp)) t1 (hK 1 (by simp)) t2 (hK 2 (by simp)) a c hs W X hW hF hsz
    · have hl : L.length = 1 := by
        have h : arity 15 = 1 := by kernel_rfl
        omega
      obtain ⟨t0, rfl⟩ : ∃ t0, L = [t0] := List.length_eq_one_iff.1 hl
      refine format_of w0 g _ hk16 227 (fun _ _ => by kernel_rfl) (fun _ _ => by kernel_rfl) (fun _ _ => by kernel_rfl) ?_
      intro a c hs W X hW hF hsz
      rw [txt_15] at hsz ⊢
      exact acc_fst w0 g n t0 (hK 0 (by simp)) a c hs W X hW hF hsz
    · have hl : L.length = 1 := by
        have h : arity 16 = 1 := by kernel_rfl
        omega
      obtain ⟨t0, rfl⟩ : ∃ t0, L = [t0] := List.length_eq_one_iff.1 hl
      refine format_of w0 g _ hk16 229 (fun _ _ => by kernel_rfl) (fun _ _ => by kernel_rfl) (fun _ _ => by kernel_rfl) ?_
      intro a c hs W X hW hF hsz
      rw [txt_16] at hsz ⊢
      exact acc_snd w0 g n t0 (hK 0 (by simp)) a c hs W X hW hF hsz

theorem pos1 (x : UInt8) (a : ByteArray) : 1 ≤ (ByteArray.mk #[x] ++ a).size := by
  rw [ByteArray.size_append]
  exact Nat.le_add_right 1 _
theorem pos2 (x y : UInt8) (a : ByteArray) : 1 ≤ (ByteArray.mk #[x, y] ++ a).size := by
  rw [ByteArray.size_append]
  exact Nat.le_trans (by decide) (Nat.le_add_right 2 _)
theorem posL {a : ByteArray} (h : 1 ≤ a.size) (b : ByteArray) : 1 ≤ (a ++ b).size := by
  rw [ByteArray.size_append]
  omega
theorem ite_posB {c : Prop} [h : Decidable c] {a b : ByteArray} (ha : 1 ≤ a.size) (hb : 1 ≤ b.size) : 1 ≤ (if c then a else b).size := by
  by_cases hc : c
  · rw [if_pos hc]; exact ha
  · rw [if_neg hc]; exact hb
theorem txtOf_pos (k : Int) (n : Nat) (L : List ByteArray) : 1 ≤ (txtOf k n L).size := by
  unfold txtOf
  repeat' (refine ite_posB ?_ ?_)
  all_goals (first | with_reducible exact pos1 _ _ | with_reducible exact posL (pos1 _ _) _ | with_reducible exact posL (posL (pos1 _ _) _) _ | with_reducible exact posL (posL (posL (pos1 _ _) _) _) _ | with_reducible exact posL (pos2 _ _ _) _ | exact Nat.le_refl 1)
theorem Tm.txt_pos (t : Tm) : 1 ≤ t.txt.size := by
  obtain ⟨k, n, l⟩ := t
  rw [Tm.txt]
  exact txtOf_pos _ _ _

set_option maxRecDepth 100000 in
set_option maxHeartbeats 1000000 in
/-- (*strings.Builder).String, where something was written. -/
theorem strF_any (B b : Nat) (T : TypeId) (rest : List Value) (X : ByteArray) (w : World) (h : FIs B b T rest (Lib.strCells X) w) (h0 : 1 ≤ X.size) :
    Calls Tryz.prog 35 #[.pointer (some ⟨b, 0, none⟩)] w fun e w' => e = .returned (.string X) ∧ Below B w w' := by
  obtain ⟨l, hl⟩ : ∃ l, l = X.data.toList := ⟨_, rfl⟩
  have hX : X = ⟨l.toArray⟩ := by rw [hl]
  have hl0 : l.length ≠ 0 := by
    rw [hl, Array.length_toList]
    show X.size ≠ 0
    omega
  obtain ⟨p, hAt⟩ : ∃ p, FAt B b T rest p (Lib.strCells X) w := h.elim (fun h => ⟨_, h⟩) (fun h => ⟨_, h⟩)
  obtain ⟨hB, v, hbk, hown, hne⟩ := hAt
  rw [Lib.strCells_eq, ← hl, Lib.byteCells_length] at hown
  rw [hX]
  clear hX hl h0 h
  obtain ⟨g, cap, cur, fz, rfl, hbg, hg, hfz, hnc, hcm, hcs, htake⟩ : ∃ g cap cur fz, v = .slice (some ⟨g, 0, none⟩) l.length cap ∧ B ≤ g ∧ w.heap[g]? = some (.cells cur 5 fz) ∧ fz.2 ≤ l.length * 1 ∧ l.length ≤ cap ∧ cap ≤ maxLen ∧ cur.size = cap * 1 ∧ cur.toList.take (l.length * 1) = Lib.byteCells l := by
    rcases hown.2 with ⟨_, hz⟩ | ⟨g, cap, cur, fz, hv, r⟩
    · exact absurd hz hl0
    · exact ⟨g, cap, cur, fz, hv, r⟩
  have c1 : w.drew.cell? ⟨b, 1, none⟩ = some (.slice (some ⟨g, 0, none⟩) l.length cap) := by
    have : w.drew.heap[b]? = some (.cells (p :: .slice (some ⟨g, 0, none⟩) l.length cap :: rest).toArray T (0, 0)) := hbk
    rw [Lib.cell_of_heap this]; simp
  have hSD : (Builtin.unsafeSliceData_ #[33] 102 #[.slice (some ⟨g, 0, none⟩) l.length cap]).run Tryz.prog w.drew = .ok (.pointer (some ⟨g, 0, none⟩)) w.drew :=
    Lib.run_unsafeSliceData_row _ _ _ _ _ _ (by omega)
  have hUS : (Builtin.unsafeString_ #[102, 3] 9 #[.pointer (some ⟨g, 0, none⟩), .int .i64 l.length]).run Tryz.prog w.drew = .ok (.string ⟨l.toArray⟩) (w.drew.freeze ⟨g, 0, none⟩ l.length) := by
    refine Lib.run_unsafeString_row w.drew 102 3 9 5 Tryz.underlying102 size_u8F g cur.size (by have hg' : w.drew.heap[g]? = some (.cells cur 5 fz) := hg; simp [World.shape?, hg']) l (by intro e; exact hl0 (by rw [e]; rfl)) (by omega) (by unfold maxLen at hcm; omega) ?_
    intro j x hx
    have := hown.cells (g := g) rfl j (.int .u8 x.toNat) (by simp [Lib.byteCells, hx])
    exact this
  have HB2 : Hid (Below B w (w.drew.freeze ⟨g, 0, none⟩ l.length)) := tuck (Lib.below_freeze (Below.drew (Below.refl B w)) (p := ⟨g, 0, none⟩) hbg _)
  clear hown hbk hne hg hfz hnc hcm hcs htake
  go_enter Tryz.func35, Tryz.ntmps35
  go_wp2
  go_region
  all_goals (go_wp2; go_ret; exact ⟨rfl, HB2.out⟩)

set_option maxRecDepth 100000 in
set_option maxHeartbeats 1000000 in
theorem newFm_any (w : World) : Calls Tryz.prog 33 #[] w fun e w' => e = .returned (.pointer (some ⟨w.heap.size, 0, none⟩)) ∧ Fm w.heap.size w.heap.size (ByteArray.mk #[]) w' ∧ Below w.heap.size w w' := by
  have HP : Hid (∀ cs, cs = #[.pointer none, .slice none 0 0, .iface 53 (.pointer (some ⟨w.heap.size, 0, none⟩))] → Fm w.heap.size w.heap.size (ByteArray.mk #[]) (w.alloc (.cells cs 62)) ∧ Below w.heap.size w (w.alloc (.cells cs 62))) := tuck fun cs h => by
    subst h
    exact ⟨.inl ⟨Nat.le_refl _, .slice none 0 0, heap_new _ _, World.ownsRowF_nil _ _ _ _, by simp [Value.ownBlock]⟩, below1 _ _⟩
  go_enter Tryz.func33, Tryz.ntmps33
  go_wp2
  go_ret
  exact ⟨rfl, HP.out _ rfl⟩

set_option maxRecDepth 100000 in
set_option maxHeartbeats 4000000 in
theorem formatI_any (t : Tm) (w : World) (v : Value) (h : TmIn w 0 t v) : Calls Tryz.prog 11 #[v] w (StrPost w (fmtOf t)) := by
  obtain ⟨s, rfl, hs⟩ := h
  obtain ⟨a, c, rfl⟩ := hs.form
  have HS := tuck hs
  have HVI := tuck fun W (h : SlIn W 0 t.kids (.slice a t.kids.length c)) => validI_any t W _ ⟨_, rfl, h⟩
  have HVB := tuck (VarAt.new w t.kind t.num (.slice a t.kids.length c))
  have HB0 := tuck (below1 w (.cells #[.int .i64 t.kind, .int .i64 t.num, .slice a t.kids.length c] 29))
  by_cases hv : t.Valid
  · have HFM : Hid (∀ (w0 W : World) (g : Nat), SlIn w0 0 t.kids (.slice a t.kids.length c) → Below w0.heap.size w0 W → Fm w0.heap.size g (ByteArray.mk #[]) W → Calls Tryz.prog 34 #[.pointer (some ⟨g, 0, none⟩), .agg #[.int .i64 t.kind, .int .i64 t.num, .slice a t.kids.length c]] W (FmPost w0.heap.size g t.txt W)) := tuck fun w0 W g h hb hf => by
      have h1 := fmtOk_any w0 g [t] ((allsOk_iff _).2 (by simpa using hv.1)) 0 (by simp) _ W (ByteArray.mk #[]) ⟨_, rfl, h⟩ hb hf (by have h1 := t.txt_size; have h2 := hv.2.2; show 0 + t.txt.size ≤ _; omega)
      have h2 : (ByteArray.mk #[]) ++ t.txt = t.txt := by
        apply ByteArray.ext
        simp [ByteArray.data_append]
      rwa [List.getElem_cons_zero, h2] at h1
    have HST : Hid (∀ (B g : Nat) W, Fm B g t.txt W → Calls Tryz.prog 35 #[.pointer (some ⟨g, 0, none⟩)] W fun e w' => e = .returned (.string t.txt) ∧ Below B W w') := tuck fun B g W h => strF_any B g _ _ _ W h t.txt_pos
    have HP : Hid (∀ w', Below w.heap.size w w' → StrPost w (fmtOf t) (.returned (.string t.txt)) w') := tuck fun w' hb => ⟨by rw [fmtOf_yes hv], hb⟩
    rw [tr_of hv] at HVI
    generalize StrPost w (fmtOf t) = post at *
    generalize t.txt = tx at *
    clear hv hs
    go_enter Tryz.func11, Tryz.ntmps11
    go_wp2_with fail
    refine (HVI.out _ (HS.out.below HB0.out)).mono ?_
    rintro e w1 ⟨rfl, hb1⟩
    have HVB1 := tuck (HVB.out.below hb1)
    obtain ⟨z0, v0, v1, v2, vf⟩ := HVB1.out.facts
    have HB1 := tuck (bAfter HB0.out hb1)
    clear hb1 HVI HVB HB0
    go_wp2_with fail
    refine (newFm_any w1).mono ?_
    rintro e w2 ⟨rfl, hf2, hb2⟩
    have HVB2 := tuck (HVB1.out.below hb2)
    clear z0 v0 v1 v2 vf
    obtain ⟨z0, v0, v1, v2, vf⟩ := HVB2.out.facts
    have HC := tuck (HFM.out w1 w2 w1.heap.size (HS.out.below HB1.out) hb2 hf2)
    have HB2 := tuck (bAfter HB1.out hb2)
    have HB12 := tuck hb2
    clear hf2 hb2 HFM
    go_wp2_with fail
    refine HC.out.mono ?_
    rintro e w3 ⟨rfl, hp3⟩
    have HC3 := tuck (HST.out _ _ _ hp3.fm)
    have HB3 := tuck (bAfter HB1.out (HB12.out.trans hp3.be))
    have HB13 := tuck (HB12.out.trans hp3.be)
    clear hp3 HC HST
    go_wp2_with fail
    refine HC3.out.mono ?_
    rintro e w4 ⟨rfl, hb4⟩
    have HB4 := tuck (bAfter HB1.out (HB13.out.trans hb4))
    clear hb4 HC3
    go_wp2_with fail
    exact HP.out _ HB4.out
  · have HP : Hid (∀ w', Below w.heap.size w w' → StrPost w (fmtOf t) (.returned (.string (ByteArray.mk #[]))) w') := tuck fun w' hb => ⟨by rw [fmtOf_no hv], hb⟩
    rw [tr_not hv] at HVI
    generalize StrPost w (fmtOf t) = post at *
    clear hv hs
    go_enter Tryz.func11, Tryz.ntmps11
    go_wp2_with fail
    refine (HVI.out _ (HS.out.below HB0.out)).mono ?_
    rintro e w1 ⟨rfl, hb1⟩
    have HB1 := tuck (bAfter HB0.out hb1)
    clear hb1 HVI HVB HB0
    go_wp2_with fail
    exact HP.out _ HB1.out

end Go.Proofs.YteeafpnjpcgfaaaGreat
