/-
  ParseC, ParseD.
-/
import Derived.Test.YtpddjebdncaceaaGreatR34
import Derived.Test.YtpddjebdncaceaaGreatR40
namespace Go.Proofs.YtpddjebdncaceaaGreat
open Go.RowKit
def SerPost (s : ByteArray) (w : World) (o : Option (List Tm × Nat)) (e : Ending) (w' : World) : Prop :=
 Below w.heap.size w w' ∧ ∃ (l : List Tm) (a : Option Addr) (c : Nat) (nx : Int), e = .returned (.tuple #[.slice a l.length c, .int .i64 nx]) ∧ SlIn w' w.heap.size l (.slice a l.length c) ∧
  match o with
  | none => nx = -1
  | some x => l = x.1 ∧ nx = (x.2 : Int) ∧ x.2 ≤ s.size
theorem SerPost.no {s : ByteArray} {w w' : World} (hb : Below w.heap.size w w') : SerPost s w none (.returned (.tuple #[.slice none 0 0, .int .i64 (-1)])) w' :=
 ⟨hb, [], none, 0, -1, rfl, SlIn.nil _ _ _ _, rfl⟩
theorem ptSer_succ (s : ByteArray) (f : Nat → Option (Tm × Nat)) (last m a : Nat) : ptSer s f last (m + 1) a = match f a with
  | none => none
  | some x => if x.2 < s.size ∧ byteAt s x.2 = (if m = 0 then last else 44) then (ptSer s f last m (x.2 + 1)).map fun y => (x.1 :: y.1, y.2) else none := by rw [ptSer]; cases f a <;> rfl
set_option maxRecDepth 100000 in
set_option maxHeartbeats 4000000 in
theorem series_any (s : ByteArray) (hs : s.size ≤ 1152921504606846976) (d : Nat) (hrec : ParseOk s d) (last : Nat) (many : Nat) (hm4 : many ≤ 4) (a : Nat) (ha : a ≤ s.size) (w : World) :
  Calls Tryz.prog 147 #[.string s, .int .i64 a, .int .i64 d, .int .i64 many, .int .u8 last] w (SerPost s w (ptSer s (pt s d) last many a)) := by
 have HREC : Hid (∀ (A : Nat) W, Calls Tryz.prog 129 #[.string s, .int .i64 A, .int .i64 d] W (PPost s W (pt s d A))) := tuck fun A W => hrec A W
 obtain ⟨post, hpost⟩ : ∃ post : Ending → World → Prop, post = SerPost s w (ptSer s (pt s d) last many a) := ⟨_, rfl⟩
 rw [← hpost]
 have HNO0 : Hid (ptSer s (pt s d) last many a = none → ∀ w', Below w.heap.size w w' → post (.returned (.tuple #[.slice none 0 0, .int .i64 (-1)])) w') := tuck fun h w' hb => by rw [hpost, h]; exact SerPost.no hb
 have HYES : Hid (∀ (l : List Tm) (A : Nat) (w' : World) (av : Option Addr) (c : Nat), ptSer s (pt s d) last many a = some (l, A) → A ≤ s.size → Below w.heap.size w w' → SlIn w' w.heap.size l (.slice av l.length c) → post (.returned (.tuple #[.slice av l.length c, .int .i64 A])) w') := tuck fun l A w' av c h hA hb hs' => by
  rw [hpost, h]; exact ⟨hb, l, av, c, A, rfl, hs', rfl, rfl, hA⟩
 clear hpost hrec
 obtain ⟨R, HR⟩ : ∃ R, Hid (R = ptSer s (pt s d) last many a) := ⟨_, tuck rfl⟩
 go_enter Tryz.func147, Tryz.ntmps147
 go_wp2_with fail
 have HB0 := tuck (below1 w (.cells #[] 34))
 have HROW0 : Hid (RowY (fun i => i < w.heap.size) w.heap.size [] (.slice (some ⟨w.heap.size, 0, none⟩) 0 0) (w.alloc (.cells #[] 34))) := tuck ⟨[], rfl, World.ownsRow_lit w #[] 0 (Nat.le_refl _) (by simp [maxLen]) (by simp), fun x h => (by cases h)⟩
 generalize w.alloc (.cells #[] 34) = W0 at *
 go_loopw [1, 12, 13] (fun at_ out i wr => ∃ (q A : Nat) (pre : List Tm), q ≤ many ∧ pre.length = q ∧ i = .int .i64 q ∧ at_ = .int .i64 A ∧ A ≤ s.size ∧ R = (ptSer s (pt s d) last (many - q) A).map (fun y => (pre ++ y.1, y.2)) ∧ Below w.heap.size w wr ∧ RowY (fun i => i < w.heap.size) w.heap.size pre out wr) (fun _ _ i _ => many - (intOf i).toNat)
 case atStart => exact ⟨0, a, [], Nat.zero_le _, rfl, rfl, rfl, ha, by rw [HR.out]; simp, HB0.out, HROW0.out⟩
 case round =>
  obtain ⟨q, A, pre, hq, hpre, rfl, rfl, hA, hr, hb, hrow⟩ := hrel
  have HB := tuck hb
  have HROW := tuck hrow
  have HPRE := tuck hpre
  have HQ := tuck hr
  obtain ⟨va, vc, rfl⟩ := HROW.out.form' hpre
  have HSZ : Hid (w.heap.size ≤ wr.heap.size) := tuck HB.out.size
  clear hb hrow hpre hr HB0 HROW0
  by_cases hlt : q < many
  ·have hlti : decide ((q : Int) < (many : Int)) = true := decide_eq_true (by omega)
   obtain ⟨m, hmq⟩ : ∃ m, many - q = m + 1 := ⟨many - q - 1, by omega⟩
   have hmq' : many - (q + 1) = m := by omega
   have HCALL : Hid (∀ W, Calls Tryz.prog 129 #[.string s, .int .i64 A, .int .i64 d] W (PPost s W (pt s d A))) := tuck fun W => HREC.out A W
   rw [hmq, ptSer_succ] at HQ
   cases hp : pt s d A with
   | none =>
    rw [hp] at HCALL
    replace HQ := tuck HQ.out
    rw [hp] at HQ
    have HNO : Hid (∀ w', Below w.heap.size w w' → post (.returned (.tuple #[.slice none 0 0, .int .i64 (-1)])) w') := tuck (HNO0.out (by rw [← HR.out, HQ.out]; rfl))
    clear hp HNO0 HYES HQ hmq hmq' HR
    go_wp2_with fail
    refine (HCALL.out _).mono ?_
    rintro e w3 ⟨hb3, T, ta, tc, nx, rfl, hs3, hm⟩
    have hbx := below1 w3 (.cells #[.int .i64 T.kind, .int .i64 T.num, .slice ta T.kids.length tc] 34)
    have HB3 := tuck (bAfter HB.out (bAfter hb3 hbx))
    have HVT := tuck (VarAt.new w3 T.kind T.num (.slice ta T.kids.length tc))
    have HS3 := tuck (hs3.below hbx)
    have HBX := tuck (bAfter hb3 hbx)
    clear hb3 hs3 hbx HCALL
    obtain rfl : nx = -1 := hm
    go_wp2_with fail
    exact HNO.out _ HB3.out
   | some x =>
    obtain ⟨X, n⟩ := x
    rw [hp] at HCALL HQ
    by_cases hn : n < s.size
    ·by_cases hlast : q + 1 < many
     ·have k1 : decide ((q : Int) + 1 < (many : Int)) = true := decide_eq_true (by omega)
      have k2 : ((q : Int) + 1 == (many : Int)) = false := by rw [beq_eq_false_iff_ne]; omega
      have hm0 : m ≠ 0 := by omega
      by_cases hc : s[n].toNat = 44
      ·have k3 : ((s[n].toNat : Int) != 44) = false := by rw [bne_eq_false_iff_eq]; omega
       have HSTEP : Hid (R = (ptSer s (pt s d) last (many - (q + 1)) (n + 1)).map (fun y => (pre ++ [X] ++ y.1, y.2))) := tuck (by
        rw [HQ.out, hmq']
        dsimp only
        rw [if_pos ⟨hn, by rw [if_neg hm0, byteAt_eq hn]; exact hc⟩, Option.map_map]
        congr 1
        funext y
        simp)
       clear hp HNO0 HYES HQ hmq hmq' HR hc
       go_wp2_with fail
       refine (HCALL.out _).mono ?_
       rintro e w3 ⟨hb3, T, ta, tc, nx, rfl, hs3, hm⟩
       have hbx := below1 w3 (.cells #[.int .i64 T.kind, .int .i64 T.num, .slice ta T.kids.length tc] 34)
       have HB3 := tuck (bAfter HB.out (bAfter hb3 hbx))
       have HVT := tuck (VarAt.new w3 T.kind T.num (.slice ta T.kids.length tc))
       have HS3 := tuck (hs3.below hbx)
       have HBX := tuck (bAfter hb3 hbx)
       clear hb3 hs3 hbx HCALL
       obtain ⟨rfl, rfl, hle⟩ := hm
       have hg1 : decide ((n : Int) < 0) = false := decide_eq_false (by omega)
       have hg2 : decide ((s.size : Int) ≤ (n : Int)) = false := decide_eq_false (by omega)
       have hg4 : (n : Int) < (s.size : Int) := by omega
       obtain ⟨zv, v0, v1, v2, vf⟩ := HVT.out.facts
       have hq4 : q + 1 ≤ maxLen := by unfold maxLen; omega
       have hqb : (q + 1) * 40 ≤ 140737488355328 := by omega
       obtain ⟨i0, hi0, hz0, hz1, hz2⟩ := info_parts info_termG
       have HI0 := tuck hi0
       have HI1 := tuck hz0
       have HI2 := tuck hz1
       have HI3 := tuck hz2
       have hbk := below1 (w3.alloc (.cells #[.int .i64 T.kind, .int .i64 T.num, .slice ta T.kids.length tc] 34)) (.cells #[.int .i64 T.kind, .int .i64 T.num, .slice ta T.kids.length tc] 34)
       have HROW4 := tuck ((HROW.out.below HBX.out).below hbk)
       have HBK := tuck (bAfter HB3.out hbk)
       have HS4 := tuck (HS3.out.below hbk)
       obtain ⟨xs, hox, hpush⟩ := HROW4.out.grow HPRE.out
       have HOX := tuck hox
       have HPUSH := tuck hpush
       have hlt4 : ∀ g, (Value.slice va q vc).ownBlock = some g → w.heap.size ≤ g ∧ g < wr.heap.size := HROW.out.lt
       have HLT := tuck hlt4
       clear hox hpush hbk hi0 hz0 hz1 hz2 hlt4
       go_wp2_with (at_builtin; refine wpList_append_lies _ rfl _ _ _ rfl w.heap.size 34 i0 _ 3 40 Tryz.underlying32 HI0.out HI1.out HI2.out HI3.out rfl (by omega) _ _ _ rfl HOX.out ⟨w3.heap.size + 1, 0, none⟩ 1 1 [.int .i64 T.kind, .int .i64 T.num, .slice ta T.kids.length tc] rfl rfl ?news ?one (by omega) hq4 hqb ?base (w3.heap.size + 1 + 1) ?size ?next)
       case news =>
        have h := World.news_of_block (w := (w3.alloc (.cells #[.int .i64 T.kind, .int .i64 T.num, .slice ta T.kids.length tc] 34)).alloc (.cells #[.int .i64 T.kind, .int .i64 T.num, .slice ta T.kids.length tc] 34)) (cs := #[.int .i64 T.kind, .int .i64 T.num, .slice ta T.kids.length tc]) (t := 34) (fr := (0, 0)) (heap_new (w3.alloc (.cells #[.int .i64 T.kind, .int .i64 T.num, .slice ta T.kids.length tc] 34)) _)
        simpa using h
       case one => simp [Value.oneCell']
       case base => have := HB3.out.size; simp at this ⊢; omega
       case size => simp
       case next =>
        intro gg gcap w4 hown4 hgrow hat hlt4
        have HGR := tuck hgrow
        have HOWN := tuck hown4
        have HAT := tuck hat
        clear hgrow hown4 hat
        go_wp2_with fail
        go_roundw
        case rel =>
         refine ⟨q + 1, n + 1, pre ++ [T], by omega, by rw [List.length_append, HPRE.out]; rfl, by go_num, by go_num, by omega, ?_, ?_, ?_⟩
         ·exact HSTEP.out
         ·exact HBK.out.grown HGR.out HBK.out.size (fun g hg => (HLT.out g hg).1)
         ·refine HPUSH.out _ _ w4 T (SlX.of_sl (B := wr.heap.size) HS4.out (fun j hj => ?_)) HOWN.out HGR.out (HAT.out.imp (fun h => h.symm) (fun h => by rw [h]; simp [Value.ownBlock]))
          have hsz := HSZ.out
          rcases hj with h | h
          ·omega
          ·exact (HLT.out j h).2
        case measure => simp [intOf]; omega
      ·have k3 : ((s[n].toNat : Int) != 44) = true := by rw [bne_iff_ne]; omega
       have HNO : Hid (∀ w', Below w.heap.size w w' → post (.returned (.tuple #[.slice none 0 0, .int .i64 (-1)])) w') := tuck (HNO0.out (by
        rw [← HR.out, HQ.out]
        dsimp only
        rw [if_neg (fun h => hc (by have := h.2; rwa [if_neg hm0, byteAt_eq hn] at this))]
        rfl))
       clear hp HNO0 HYES HQ hmq hmq' HR hc
       go_wp2_with fail
       refine (HCALL.out _).mono ?_
       rintro e w3 ⟨hb3, T, ta, tc, nx, rfl, hs3, hm⟩
       have hbx := below1 w3 (.cells #[.int .i64 T.kind, .int .i64 T.num, .slice ta T.kids.length tc] 34)
       have HB3 := tuck (bAfter HB.out (bAfter hb3 hbx))
       have HVT := tuck (VarAt.new w3 T.kind T.num (.slice ta T.kids.length tc))
       have HS3 := tuck (hs3.below hbx)
       have HBX := tuck (bAfter hb3 hbx)
       clear hb3 hs3 hbx HCALL
       obtain ⟨rfl, rfl, hle⟩ := hm
       have hg1 : decide ((n : Int) < 0) = false := decide_eq_false (by omega)
       have hg2 : decide ((s.size : Int) ≤ (n : Int)) = false := decide_eq_false (by omega)
       have hg4 : (n : Int) < (s.size : Int) := by omega
       go_wp2_with fail
       exact HNO.out _ HB3.out
     ·have k1 : decide ((q : Int) + 1 < (many : Int)) = false := decide_eq_false (by omega)
      have k2 : ((q : Int) + 1 == (many : Int)) = true := by rw [beq_iff_eq]; omega
      have hm0 : m = 0 := by omega
      by_cases hc : s[n].toNat = last
      ·have k3 : ((s[n].toNat : Int) != (last : Int)) = false := by rw [bne_eq_false_iff_eq]; omega
       have HSTEP : Hid (R = (ptSer s (pt s d) last (many - (q + 1)) (n + 1)).map (fun y => (pre ++ [X] ++ y.1, y.2))) := tuck (by
        rw [HQ.out, hmq']
        dsimp only
        rw [if_pos ⟨hn, by rw [if_pos hm0, byteAt_eq hn]; exact hc⟩, Option.map_map]
        congr 1
        funext y
        simp)
       clear hp HNO0 HYES HQ hmq hmq' HR hc
       go_wp2_with fail
       refine (HCALL.out _).mono ?_
       rintro e w3 ⟨hb3, T, ta, tc, nx, rfl, hs3, hm⟩
       have hbx := below1 w3 (.cells #[.int .i64 T.kind, .int .i64 T.num, .slice ta T.kids.length tc] 34)
       have HB3 := tuck (bAfter HB.out (bAfter hb3 hbx))
       have HVT := tuck (VarAt.new w3 T.kind T.num (.slice ta T.kids.length tc))
       have HS3 := tuck (hs3.below hbx)
       have HBX := tuck (bAfter hb3 hbx)
       clear hb3 hs3 hbx HCALL
       obtain ⟨rfl, rfl, hle⟩ := hm
       have hg1 : decide ((n : Int) < 0) = false := decide_eq_false (by omega)
       have hg2 : decide ((s.size : Int) ≤ (n : Int)) = false := decide_eq_false (by omega)
       have hg4 : (n : Int) < (s.size : Int) := by omega
       obtain ⟨zv, v0, v1, v2, vf⟩ := HVT.out.facts
       have hq4 : q + 1 ≤ maxLen := by unfold maxLen; omega
       have hqb : (q + 1) * 40 ≤ 140737488355328 := by omega
       obtain ⟨i0, hi0, hz0, hz1, hz2⟩ := info_parts info_termG
       have HI0 := tuck hi0
       have HI1 := tuck hz0
       have HI2 := tuck hz1
       have HI3 := tuck hz2
       have hbk := below1 (w3.alloc (.cells #[.int .i64 T.kind, .int .i64 T.num, .slice ta T.kids.length tc] 34)) (.cells #[.int .i64 T.kind, .int .i64 T.num, .slice ta T.kids.length tc] 34)
       have HROW4 := tuck ((HROW.out.below HBX.out).below hbk)
       have HBK := tuck (bAfter HB3.out hbk)
       have HS4 := tuck (HS3.out.below hbk)
       obtain ⟨xs, hox, hpush⟩ := HROW4.out.grow HPRE.out
       have HOX := tuck hox
       have HPUSH := tuck hpush
       have hlt4 : ∀ g, (Value.slice va q vc).ownBlock = some g → w.heap.size ≤ g ∧ g < wr.heap.size := HROW.out.lt
       have HLT := tuck hlt4
       clear hox hpush hbk hi0 hz0 hz1 hz2 hlt4
       go_wp2_with (at_builtin; refine wpList_append_lies _ rfl _ _ _ rfl w.heap.size 34 i0 _ 3 40 Tryz.underlying32 HI0.out HI1.out HI2.out HI3.out rfl (by omega) _ _ _ rfl HOX.out ⟨w3.heap.size + 1, 0, none⟩ 1 1 [.int .i64 T.kind, .int .i64 T.num, .slice ta T.kids.length tc] rfl rfl ?news ?one (by omega) hq4 hqb ?base (w3.heap.size + 1 + 1) ?size ?next)
       case news =>
        have h := World.news_of_block (w := (w3.alloc (.cells #[.int .i64 T.kind, .int .i64 T.num, .slice ta T.kids.length tc] 34)).alloc (.cells #[.int .i64 T.kind, .int .i64 T.num, .slice ta T.kids.length tc] 34)) (cs := #[.int .i64 T.kind, .int .i64 T.num, .slice ta T.kids.length tc]) (t := 34) (fr := (0, 0)) (heap_new (w3.alloc (.cells #[.int .i64 T.kind, .int .i64 T.num, .slice ta T.kids.length tc] 34)) _)
        simpa using h
       case one => simp [Value.oneCell']
       case base => have := HB3.out.size; simp at this ⊢; omega
       case size => simp
       case next =>
        intro gg gcap w4 hown4 hgrow hat hlt4
        have HGR := tuck hgrow
        have HOWN := tuck hown4
        have HAT := tuck hat
        clear hgrow hown4 hat
        go_wp2_with fail
        go_roundw
        case rel =>
         refine ⟨q + 1, n + 1, pre ++ [T], by omega, by rw [List.length_append, HPRE.out]; rfl, by go_num, by go_num, by omega, ?_, ?_, ?_⟩
         ·exact HSTEP.out
         ·exact HBK.out.grown HGR.out HBK.out.size (fun g hg => (HLT.out g hg).1)
         ·refine HPUSH.out _ _ w4 T (SlX.of_sl (B := wr.heap.size) HS4.out (fun j hj => ?_)) HOWN.out HGR.out (HAT.out.imp (fun h => h.symm) (fun h => by rw [h]; simp [Value.ownBlock]))
          have hsz := HSZ.out
          rcases hj with h | h
          ·omega
          ·exact (HLT.out j h).2
        case measure => simp [intOf]; omega
      ·have k3 : ((s[n].toNat : Int) != (last : Int)) = true := by rw [bne_iff_ne]; omega
       have HNO : Hid (∀ w', Below w.heap.size w w' → post (.returned (.tuple #[.slice none 0 0, .int .i64 (-1)])) w') := tuck (HNO0.out (by
        rw [← HR.out, HQ.out]
        dsimp only
        rw [if_neg (fun h => hc (by have := h.2; rwa [if_pos hm0, byteAt_eq hn] at this))]
        rfl))
       clear hp HNO0 HYES HQ hmq hmq' HR hc
       go_wp2_with fail
       refine (HCALL.out _).mono ?_
       rintro e w3 ⟨hb3, T, ta, tc, nx, rfl, hs3, hm⟩
       have hbx := below1 w3 (.cells #[.int .i64 T.kind, .int .i64 T.num, .slice ta T.kids.length tc] 34)
       have HB3 := tuck (bAfter HB.out (bAfter hb3 hbx))
       have HVT := tuck (VarAt.new w3 T.kind T.num (.slice ta T.kids.length tc))
       have HS3 := tuck (hs3.below hbx)
       have HBX := tuck (bAfter hb3 hbx)
       clear hb3 hs3 hbx HCALL
       obtain ⟨rfl, rfl, hle⟩ := hm
       have hg1 : decide ((n : Int) < 0) = false := decide_eq_false (by omega)
       have hg2 : decide ((s.size : Int) ≤ (n : Int)) = false := decide_eq_false (by omega)
       have hg4 : (n : Int) < (s.size : Int) := by omega
       go_wp2_with fail
       exact HNO.out _ HB3.out
    ·have HNO : Hid (∀ w', Below w.heap.size w w' → post (.returned (.tuple #[.slice none 0 0, .int .i64 (-1)])) w') := tuck (HNO0.out (by
      rw [← HR.out, HQ.out]
      dsimp only
      rw [if_neg (fun h => hn h.1)]
      rfl))
     clear hp HNO0 HYES HQ hmq hmq' HR
     go_wp2_with fail
     refine (HCALL.out _).mono ?_
     rintro e w3 ⟨hb3, T, ta, tc, nx, rfl, hs3, hm⟩
     have hbx := below1 w3 (.cells #[.int .i64 T.kind, .int .i64 T.num, .slice ta T.kids.length tc] 34)
     have HB3 := tuck (bAfter HB.out (bAfter hb3 hbx))
     have HVT := tuck (VarAt.new w3 T.kind T.num (.slice ta T.kids.length tc))
     have HS3 := tuck (hs3.below hbx)
     have HBX := tuck (bAfter hb3 hbx)
     clear hb3 hs3 hbx HCALL
     obtain ⟨rfl, rfl, hle⟩ := hm
     have hg1 : decide ((n : Int) < 0) = false := decide_eq_false (by omega)
     have hg2 : decide ((s.size : Int) ≤ (n : Int)) = true := decide_eq_true (by omega)
     go_wp2_with fail
     exact HNO.out _ HB3.out
  ·have hlti : decide ((q : Int) < (many : Int)) = false := decide_eq_false (by omega)
   have hqm : many - q = 0 := by omega
   have hres : ptSer s (pt s d) last many a = some (pre, A) := by rw [← HR.out, HQ.out, hqm, ptSer]; simp
   have hsl : SlX wr (fun i => i < w.heap.size) pre (.slice va pre.length vc) := by
    rw [HPRE.out]
    exact HROW.out.done (by rw [HPRE.out]; unfold maxLen; omega) (fun j hj => hj)
   have HEND := tuck (HYES.out pre A wr va vc hres hA HB.out hsl.from)
   rw [HPRE.out] at HEND
   clear hsl hres hqm HYES HNO0 HQ HR
   go_wp2_with fail
   exact HEND.out
end Go.Proofs.YtpddjebdncaceaaGreat
namespace Go.Proofs.YtpddjebdncaceaaGreat
open Go.RowKit
set_option maxRecDepth 100000 in
set_option maxHeartbeats 4000000 in
theorem block_any (s : ByteArray) (hs : s.size ≤ 1152921504606846976) (d : Nat) (hd : d ≤ 100) (hrec : ParseOk s d) (a : Nat) (ha : a < s.size) (w : World) :
  Calls Tryz.prog 142 #[.string s, .int .i64 a, .int .i64 ((d + 1 : Nat) : Int)] w (PPost s w (ptBlock s (pt s d) a)) := by
 obtain ⟨post, hpost⟩ : ∃ post : Ending → World → Prop, post = PPost s w (ptBlock s (pt s d) a) := ⟨_, rfl⟩
 rw [← hpost]
 have HNO0 : Hid (ptBlock s (pt s d) a = none → ∀ w', Below w.heap.size w w' → post (.returned (.tuple #[.agg #[.int .i64 0, .int .i64 0, .slice none 0 0], .int .i64 (-1)])) w') := tuck fun h w' hb => by rw [hpost, h]; exact PPost.zero hb
 have HB1 := tuck (below1 w (.cells #[.int .i64 0, .int .i64 0, .slice none 0 0] 34))
 have HV1 := tuck (VarAt.new w 0 0 (.slice none 0 0))
 have hai : (a : Int) < (s.size : Int) := by omega
 have hdd : ((d + 1 : Nat) : Int) - 1 = (d : Int) := by omega
 have hds : (d : Int) + 1 - 1 = (d : Int) := by omega
 by_cases hb : s[a].toNat = 60
 ·have hkk : blockKind (byteAt s a) = 9 := by rw [byteAt_eq ha, hb]; decide
  have hll : blockLast (byteAt s a) = 62 := by rw [byteAt_eq ha, hb]; decide
  have hbb : byteAt s a = 60 := by rw [byteAt_eq ha, hb]
  have g60 : ((s[a].toNat : Int) == 60) = true := by rw [beq_iff_eq]; omega
  obtain ⟨o, ho⟩ : ∃ o, o = ptSer s (pt s d) 62 4 (a + 1) := ⟨_, rfl⟩
  have hpt : ptBlock s (pt s d) a = o.map fun y => (.mk 9 0 y.1, y.2) := by
   unfold ptBlock
   rw [hkk, if_neg (by decide), hll, hbb, if_neg (fun h => absurd h.1 (by decide)), if_pos rfl, ho]
   rfl
  have HYES : Hid (∀ (l : List Tm) (a' : Option Addr) (c' : Nat) (nx : Int) (w' : World), Below w.heap.size w w' → SlIn w' w.heap.size l (.slice a' l.length c') → (match o with | none => nx = -1 | some x => l = x.1 ∧ nx = (x.2 : Int) ∧ x.2 ≤ s.size) → post (.returned (.tuple #[.agg #[.int .i64 9, .int .i64 0, .slice a' l.length c'], .int .i64 nx])) w') := tuck fun l a' c' nx w' hb hs' hm => by
   rw [hpost, hpt]
   refine ⟨hb, .mk 9 0 l, a', c', nx, rfl, hs', ?_⟩
   cases o with
   | none => exact hm
   | some x => exact ⟨by rw [hm.1], hm.2⟩
  clear hpost hpt hkk hll hbb HNO0
  have HSER : Hid (∀ W, Calls Tryz.prog 147 #[.string s, .int .i64 ((a : Int) + 1), .int .i64 d, .int .i64 4, .int .u8 62] W (SerPost s W o)) := tuck fun W => by
   have := series_any s hs d hrec 62 4 (by decide) (a + 1) (by omega) W
   rw [← ho] at this
   rwa [show ((a + 1 : Nat) : Int) = (a : Int) + 1 by omega] at this
  have HKI : Hid (∀ W : World, Calls Tryz.prog 101 #[.int .i64 9] W fun e w' => e = .returned (.int .i64 4) ∧ W = w') := tuck fun W => by have := kids_any 9 W; rwa [show arity 9 = 4 by decide] at this
  clear hrec ho
  go_enter Tryz.func142, Tryz.ntmps142
  go_wp2_with fail
  generalize w.alloc (.cells #[.int .i64 0, .int .i64 0, .slice none 0 0] 34) = W1 at *
  refine (HKI.out _).mono ?_
  rintro e w2 ⟨rfl, rfl⟩
  go_wp2_with fail
  refine (HSER.out _).mono ?_
  rintro e w3 ⟨hb3, l, la, lc, nx, rfl, hs3, hm⟩
  have hzz := HV1.out.facts.1
  obtain ⟨z1, r0, r1, r2, rf⟩ := (HV1.out.below hb3).facts
  have HB3 := tuck (bAfter HB1.out hb3)
  have HS3 : Hid (SlIn w3 (w.heap.size + 1) l (.slice la l.length lc)) := tuck (hs3.mono hzz)
  have HM := tuck hm
  clear hb3 hs3 hm hzz
  go_wp2_with fail
  refine bodyPost_ret (v := .tuple #[.agg #[.int .i64 9, .int .i64 0, .slice la l.length lc], .int .i64 nx]) (by simp [results, Tryz.results142, go_sem, *]) rfl (HYES.out l la lc nx _ ?_ ?_ HM.out)
  ·exact bSet3 HB3.out (Nat.le_refl _) _ _ _ _ _ _
  ·exact (SlIn.set3 HS3.out (Nat.lt_succ_self _)).mono (Nat.le_succ _)
 have hn60 := hb
 have g60 : ((s[a].toNat : Int) == 60) = false := by rw [beq_eq_false_iff_ne]; omega
 clear hb
 by_cases hb : s[a].toNat = 123
 ·have hkk : blockKind (byteAt s a) = 10 := by rw [byteAt_eq ha, hb]; decide
  have hll : blockLast (byteAt s a) = 125 := by rw [byteAt_eq ha, hb]; decide
  have hbb : byteAt s a = 123 := by rw [byteAt_eq ha, hb]
  have g60 : ((s[a].toNat : Int) == 60) = false := by rw [beq_eq_false_iff_ne]; omega
  have g123 : ((s[a].toNat : Int) == 123) = true := by rw [beq_iff_eq]; omega
  obtain ⟨o, ho⟩ : ∃ o, o = ptSer s (pt s d) 125 3 (a + 1) := ⟨_, rfl⟩
  have hpt : ptBlock s (pt s d) a = o.map fun y => (.mk 10 0 y.1, y.2) := by
   unfold ptBlock
   rw [hkk, if_neg (by decide), hll, hbb, if_neg (fun h => absurd h.1 (by decide)), if_neg (by decide), ho]
   rfl
  have HYES : Hid (∀ (l : List Tm) (a' : Option Addr) (c' : Nat) (nx : Int) (w' : World), Below w.heap.size w w' → SlIn w' w.heap.size l (.slice a' l.length c') → (match o with | none => nx = -1 | some x => l = x.1 ∧ nx = (x.2 : Int) ∧ x.2 ≤ s.size) → post (.returned (.tuple #[.agg #[.int .i64 10, .int .i64 0, .slice a' l.length c'], .int .i64 nx])) w') := tuck fun l a' c' nx w' hb hs' hm => by
   rw [hpost, hpt]
   refine ⟨hb, .mk 10 0 l, a', c', nx, rfl, hs', ?_⟩
   cases o with
   | none => exact hm
   | some x => exact ⟨by rw [hm.1], hm.2⟩
  clear hpost hpt hkk hll hbb HNO0
  have HSER : Hid (∀ W, Calls Tryz.prog 147 #[.string s, .int .i64 ((a : Int) + 1), .int .i64 d, .int .i64 3, .int .u8 125] W (SerPost s W o)) := tuck fun W => by
   have := series_any s hs d hrec 125 3 (by decide) (a + 1) (by omega) W
   rw [← ho] at this
   rwa [show ((a + 1 : Nat) : Int) = (a : Int) + 1 by omega] at this
  have HKI : Hid (∀ W : World, Calls Tryz.prog 101 #[.int .i64 10] W fun e w' => e = .returned (.int .i64 3) ∧ W = w') := tuck fun W => by have := kids_any 10 W; rwa [show arity 10 = 3 by decide] at this
  clear hrec ho
  go_enter Tryz.func142, Tryz.ntmps142
  go_wp2_with fail
  generalize w.alloc (.cells #[.int .i64 0, .int .i64 0, .slice none 0 0] 34) = W1 at *
  refine (HKI.out _).mono ?_
  rintro e w2 ⟨rfl, rfl⟩
  go_wp2_with fail
  refine (HSER.out _).mono ?_
  rintro e w3 ⟨hb3, l, la, lc, nx, rfl, hs3, hm⟩
  have hzz := HV1.out.facts.1
  obtain ⟨z1, r0, r1, r2, rf⟩ := (HV1.out.below hb3).facts
  have HB3 := tuck (bAfter HB1.out hb3)
  have HS3 : Hid (SlIn w3 (w.heap.size + 1) l (.slice la l.length lc)) := tuck (hs3.mono hzz)
  have HM := tuck hm
  clear hb3 hs3 hm hzz
  go_wp2_with fail
  refine bodyPost_ret (v := .tuple #[.agg #[.int .i64 10, .int .i64 0, .slice la l.length lc], .int .i64 nx]) (by simp [results, Tryz.results142, go_sem, *]) rfl (HYES.out l la lc nx _ ?_ ?_ HM.out)
  ·exact bSet3 HB3.out (Nat.le_refl _) _ _ _ _ _ _
  ·exact (SlIn.set3 HS3.out (Nat.lt_succ_self _)).mono (Nat.le_succ _)
 have hn123 := hb
 have g123 : ((s[a].toNat : Int) == 123) = false := by rw [beq_eq_false_iff_ne]; omega
 clear hb
 by_cases hb : s[a].toNat = 124
 ·have hkk : blockKind (byteAt s a) = 14 := by rw [byteAt_eq ha, hb]; decide
  have hll : blockLast (byteAt s a) = 124 := by rw [byteAt_eq ha, hb]; decide
  have hbb : byteAt s a = 124 := by rw [byteAt_eq ha, hb]
  have g60 : ((s[a].toNat : Int) == 60) = false := by rw [beq_eq_false_iff_ne]; omega
  have g123 : ((s[a].toNat : Int) == 123) = false := by rw [beq_eq_false_iff_ne]; omega
  have g124 : ((s[a].toNat : Int) == 124) = true := by rw [beq_iff_eq]; omega
  obtain ⟨o, ho⟩ : ∃ o, o = ptSer s (pt s d) 124 3 (a + 1) := ⟨_, rfl⟩
  have hpt : ptBlock s (pt s d) a = o.map fun y => (.mk 14 0 y.1, y.2) := by
   unfold ptBlock
   rw [hkk, if_neg (by decide), hll, hbb, if_neg (fun h => absurd h.1 (by decide)), if_neg (by decide), ho]
   rfl
  have HYES : Hid (∀ (l : List Tm) (a' : Option Addr) (c' : Nat) (nx : Int) (w' : World), Below w.heap.size w w' → SlIn w' w.heap.size l (.slice a' l.length c') → (match o with | none => nx = -1 | some x => l = x.1 ∧ nx = (x.2 : Int) ∧ x.2 ≤ s.size) → post (.returned (.tuple #[.agg #[.int .i64 14, .int .i64 0, .slice a' l.length c'], .int .i64 nx])) w') := tuck fun l a' c' nx w' hb hs' hm => by
   rw [hpost, hpt]
   refine ⟨hb, .mk 14 0 l, a', c', nx, rfl, hs', ?_⟩
   cases o with
   | none => exact hm
   | some x => exact ⟨by rw [hm.1], hm.2⟩
  clear hpost hpt hkk hll hbb HNO0
  have HSER : Hid (∀ W, Calls Tryz.prog 147 #[.string s, .int .i64 ((a : Int) + 1), .int .i64 d, .int .i64 3, .int .u8 124] W (SerPost s W o)) := tuck fun W => by
   have := series_any s hs d hrec 124 3 (by decide) (a + 1) (by omega) W
   rw [← ho] at this
   rwa [show ((a + 1 : Nat) : Int) = (a : Int) + 1 by omega] at this
  have HKI : Hid (∀ W : World, Calls Tryz.prog 101 #[.int .i64 14] W fun e w' => e = .returned (.int .i64 3) ∧ W = w') := tuck fun W => by have := kids_any 14 W; rwa [show arity 14 = 3 by decide] at this
  clear hrec ho
  go_enter Tryz.func142, Tryz.ntmps142
  go_wp2_with fail
  generalize w.alloc (.cells #[.int .i64 0, .int .i64 0, .slice none 0 0] 34) = W1 at *
  refine (HKI.out _).mono ?_
  rintro e w2 ⟨rfl, rfl⟩
  go_wp2_with fail
  refine (HSER.out _).mono ?_
  rintro e w3 ⟨hb3, l, la, lc, nx, rfl, hs3, hm⟩
  have hzz := HV1.out.facts.1
  obtain ⟨z1, r0, r1, r2, rf⟩ := (HV1.out.below hb3).facts
  have HB3 := tuck (bAfter HB1.out hb3)
  have HS3 : Hid (SlIn w3 (w.heap.size + 1) l (.slice la l.length lc)) := tuck (hs3.mono hzz)
  have HM := tuck hm
  clear hb3 hs3 hm hzz
  go_wp2_with fail
  refine bodyPost_ret (v := .tuple #[.agg #[.int .i64 14, .int .i64 0, .slice la l.length lc], .int .i64 nx]) (by simp [results, Tryz.results142, go_sem, *]) rfl (HYES.out l la lc nx _ ?_ ?_ HM.out)
  ·exact bSet3 HB3.out (Nat.le_refl _) _ _ _ _ _ _
  ·exact (SlIn.set3 HS3.out (Nat.lt_succ_self _)).mono (Nat.le_succ _)
 have hn124 := hb
 have g124 : ((s[a].toNat : Int) == 124) = false := by rw [beq_eq_false_iff_ne]; omega
 clear hb
 by_cases hb : s[a].toNat = 64
 ·have hkk : blockKind (byteAt s a) = 12 := by rw [byteAt_eq ha, hb]; decide
  have hll : blockLast (byteAt s a) = 62 := by rw [byteAt_eq ha, hb]; decide
  have hbb : byteAt s a = 64 := by rw [byteAt_eq ha, hb]
  have g60 : ((s[a].toNat : Int) == 60) = false := by rw [beq_eq_false_iff_ne]; omega
  have g123 : ((s[a].toNat : Int) == 123) = false := by rw [beq_eq_false_iff_ne]; omega
  have g124 : ((s[a].toNat : Int) == 124) = false := by rw [beq_eq_false_iff_ne]; omega
  have g64 : ((s[a].toNat : Int) == 64) = true := by rw [beq_iff_eq]; omega
  by_cases h2 : a + 1 < s.size
  ·have k0 : decide ((s.size : Int) < (a : Int) + 2) = false := decide_eq_false (by omega)
   have k0' : (a : Int) + 1 < (s.size : Int) := by omega
   have k0'' : (0 : Int) ≤ (a : Int) + 1 := by omega
   by_cases h60 : s[a + 1].toNat = 60
   ·have k1 : ((s[a + 1].toNat : Int) != 60) = false := by rw [bne_eq_false_iff_eq]; omega
    have hb2 : byteAt s (a + 1) = 60 := by rw [byteAt_eq h2]; exact h60
    obtain ⟨o, ho⟩ : ∃ o, o = ptSer s (pt s d) 62 3 (a + 2) := ⟨_, rfl⟩
    have hpt : ptBlock s (pt s d) a = o.map fun y => (.mk 12 0 y.1, y.2) := by
     unfold ptBlock
     rw [hkk, if_neg (by decide), hll, hbb, hb2, if_neg (fun h => h.2 rfl), if_neg (by decide), ho]
     rfl
    have HYES : Hid (∀ (l : List Tm) (a' : Option Addr) (c' : Nat) (nx : Int) (w' : World), Below w.heap.size w w' → SlIn w' w.heap.size l (.slice a' l.length c') → (match o with | none => nx = -1 | some x => l = x.1 ∧ nx = (x.2 : Int) ∧ x.2 ≤ s.size) → post (.returned (.tuple #[.agg #[.int .i64 12, .int .i64 0, .slice a' l.length c'], .int .i64 nx])) w') := tuck fun l a' c' nx w' hb hs' hm => by
     rw [hpost, hpt]
     refine ⟨hb, .mk 12 0 l, a', c', nx, rfl, hs', ?_⟩
     cases o with
     | none => exact hm
     | some x => exact ⟨by rw [hm.1], hm.2⟩
    clear hpost hpt hkk hll hbb HNO0 hb2
    have HSER : Hid (∀ W, Calls Tryz.prog 147 #[.string s, .int .i64 ((a : Int) + 2), .int .i64 d, .int .i64 3, .int .u8 62] W (SerPost s W o)) := tuck fun W => by
     have := series_any s hs d hrec 62 3 (by decide) (a + 2) (by omega) W
     rw [← ho] at this
     rwa [show ((a + 2 : Nat) : Int) = (a : Int) + 2 by omega] at this
    have HKI : Hid (∀ W : World, Calls Tryz.prog 101 #[.int .i64 12] W fun e w' => e = .returned (.int .i64 3) ∧ W = w') := tuck fun W => by have := kids_any 12 W; rwa [show arity 12 = 3 by decide] at this
    clear hrec ho
    go_enter Tryz.func142, Tryz.ntmps142
    go_wp2_with fail
    generalize w.alloc (.cells #[.int .i64 0, .int .i64 0, .slice none 0 0] 34) = W1 at *
    refine (HKI.out _).mono ?_
    rintro e w2 ⟨rfl, rfl⟩
    go_wp2_with fail
    refine (HSER.out _).mono ?_
    rintro e w3 ⟨hb3, l, la, lc, nx, rfl, hs3, hm⟩
    have hzz := HV1.out.facts.1
    obtain ⟨z1, r0, r1, r2, rf⟩ := (HV1.out.below hb3).facts
    have HB3 := tuck (bAfter HB1.out hb3)
    have HS3 : Hid (SlIn w3 (w.heap.size + 1) l (.slice la l.length lc)) := tuck (hs3.mono hzz)
    have HM := tuck hm
    clear hb3 hs3 hm hzz
    go_wp2_with fail
    refine bodyPost_ret (v := .tuple #[.agg #[.int .i64 12, .int .i64 0, .slice la l.length lc], .int .i64 nx]) (by simp [results, Tryz.results142, go_sem, *]) rfl (HYES.out l la lc nx _ ?_ ?_ HM.out)
    ·exact bSet3 HB3.out (Nat.le_refl _) _ _ _ _ _ _
    ·exact (SlIn.set3 HS3.out (Nat.lt_succ_self _)).mono (Nat.le_succ _)
   ·have k1 : ((s[a + 1].toNat : Int) != 60) = true := by rw [bne_iff_ne]; omega
    have HNO := tuck (HNO0.out (by
     unfold ptBlock
     rw [hkk, if_neg (by decide), hbb, byteAt_eq h2, if_pos ⟨rfl, h60⟩]))
    clear hpost hkk hll hbb HNO0 hrec
    go_enter Tryz.func142, Tryz.ntmps142
    go_wp2_with fail
    refine bodyPost_ret (v := .tuple #[.agg #[.int .i64 0, .int .i64 0, .slice none 0 0], .int .i64 (-1)]) (by simp [results, Tryz.results142, go_sem, *]) rfl (HNO.out _ ?_)
    first | exact HB1.out | exact bSet3 HB1.out (Nat.le_refl _) _ _ _ _ _ _
  ·have k0 : decide ((s.size : Int) < (a : Int) + 2) = true := decide_eq_true (by omega)
   have HNO := tuck (HNO0.out (by
    unfold ptBlock
    rw [hkk, if_neg (by decide), hbb, show byteAt s (a + 1) = 0 by unfold byteAt; rw [dif_neg h2], if_pos ⟨rfl, by decide⟩]))
   clear hpost hkk hll hbb HNO0 hrec
   go_enter Tryz.func142, Tryz.ntmps142
   go_wp2_with fail
   refine bodyPost_ret (v := .tuple #[.agg #[.int .i64 0, .int .i64 0, .slice none 0 0], .int .i64 (-1)]) (by simp [results, Tryz.results142, go_sem, *]) rfl (HNO.out _ ?_)
   first | exact HB1.out | exact bSet3 HB1.out (Nat.le_refl _) _ _ _ _ _ _
 have hn64 := hb
 have g64 : ((s[a].toNat : Int) == 64) = false := by rw [beq_eq_false_iff_ne]; omega
 clear hb
 have HNO := tuck (HNO0.out (by
  unfold ptBlock blockKind
  rw [byteAt_eq ha, if_neg hn60, if_neg hn123, if_neg hn124, if_neg hn64]
  exact if_pos rfl))
 clear hpost HNO0 hrec
 go_enter Tryz.func142, Tryz.ntmps142
 go_wp2_with fail
 refine bodyPost_ret (v := .tuple #[.agg #[.int .i64 0, .int .i64 0, .slice none 0 0], .int .i64 (-1)]) (by simp [results, Tryz.results142, go_sem, *]) rfl (HNO.out _ ?_)
 first | exact HB1.out | exact bSet3 HB1.out (Nat.le_refl _) _ _ _ _ _ _
end Go.Proofs.YtpddjebdncaceaaGreat
