/-
  Developments in plain words: 'Tm.devo'.
-/
import Derived.Test.YthmcgpppacodeaaStepP
namespace Go.Proofs.Ythmcgpppacodeaa

/-- What a node becomes, its operands being developed. -/
def devC (t : Tm) (l : List Tm) : Tm := if t.redex = 0 then .mk t.kind t.num l else (Tm.mk t.kind t.num l).contr
mutual
/-- The development of a term, if all that it makes is valid. -/
noncomputable def Tm.devo : Tm → Option Tm
  | .mk k n l => (devL l).bind fun l' => @ite _ (devC (.mk k n l) l').Valid (Classical.propDecidable _) (some (devC (.mk k n l) l')) none
noncomputable def devL : List Tm → Option (List Tm)
  | [] => some []
  | t :: l => t.devo.bind fun t' => (devL l).map (t' :: ·)
end
theorem Tm.devo_eq (t : Tm) : t.devo = (devL t.kids).bind fun l' => @ite _ (devC t l').Valid (Classical.propDecidable _) (some (devC t l')) none := by
  obtain ⟨k, n, l⟩ := t
  rw [Tm.devo]; rfl
theorem devo_valid {t T : Tm} (h : t.devo = some T) : T.Valid := by
  rw [t.devo_eq] at h
  cases hl : devL t.kids with
  | none => rw [hl] at h; cases h
  | some l' =>
    rw [hl, Option.bind_some] at h
    split at h
    · rename_i hv; cases h; exact hv
    · cases h
theorem devL_drop {l : List Tm} {q : Nat} (h : q < l.length) : devL (l.drop q) = (l[q].devo).bind fun t' => (devL (l.drop (q + 1))).map (t' :: ·) := by
  rw [List.drop_eq_getElem_cons h, devL]
theorem devL_length : ∀ {l l' : List Tm}, devL l = some l' → l'.length = l.length
  | [], l', h => by rw [devL] at h; cases h; rfl
  | t :: l, l', h => by
    rw [devL] at h
    cases ht : t.devo with
    | none => rw [ht] at h; cases h
    | some t' =>
      rw [ht, Option.bind_some] at h
      cases hl : devL l with
      | none => rw [hl] at h; cases h
      | some m =>
        rw [hl] at h
        cases h
        simp [devL_length hl]
theorem devL_get : ∀ {l l' : List Tm}, devL l = some l' → ∀ (i : Nat) (h : i < l.length) (h' : i < l'.length), l[i].devo = some l'[i]
  | [], l', h, i, hi, _ => by simp at hi
  | t :: l, l', h, i, hi, hi' => by
    rw [devL] at h
    cases ht : t.devo with
    | none => rw [ht] at h; cases h
    | some t' =>
      rw [ht, Option.bind_some] at h
      cases hl : devL l with
      | none => rw [hl] at h; cases h
      | some m =>
        rw [hl] at h
        cases h
        match i with
        | 0 => simpa using ht
        | i + 1 => simpa using devL_get hl i (by simpa using hi) (by simpa using hi')
theorem devo_kind {t T : Tm} (h0 : t.redex = 0) (h : t.devo = some T) : T.kind = t.kind := by
  rw [t.devo_eq] at h
  cases hl : devL t.kids with
  | none => rw [hl] at h; cases h
  | some l' =>
    rw [hl, Option.bind_some] at h
    split at h
    · cases h
      unfold devC
      rw [if_pos h0]
      rfl
    · cases h
theorem dev_redex {t : Tm} (hr : t.rootOk) {l' : List Tm} (hl : devL t.kids = some l') (h : t.redex ≠ 0) : (Tm.mk t.kind t.num l').redex = t.redex := by
  have hm : mainIx t.kind ≠ -1 := fun hm => h (redex_none hm)
  obtain ⟨h1, -⟩ := mainIx_lt hr hm
  have hlen := devL_length hl
  have hg := devL_get hl (mainIx t.kind).toNat h1 (by omega)
  have h0 : (t.kids[(mainIx t.kind).toNat]).redex = 0 := by
    have hk : kidT t (mainIx t.kind).toNat = t.kids[(mainIx t.kind).toNat] := kidT_eq h1
    rw [← hk]
    apply redex_none
    rcases redex_shape hr h with ⟨-, e, -, hm⟩ | ⟨-, e, -, hm⟩ | ⟨-, e, -, hm⟩ | ⟨-, e, -, hm⟩ | ⟨-, e, -, hm⟩ | ⟨-, e, -, hm⟩ <;> rw [e] <;>
      (first | (rw [show (mainIx 5).toNat = 0 by decide, hm]; decide) | (rw [show (mainIx 9).toNat = 3 by decide, hm]; decide) | (rw [show (mainIx 12).toNat = 1 by decide, hm]; decide) | (rw [show (mainIx 15).toNat = 0 by decide, hm]; decide) | (rw [show (mainIx 16).toNat = 0 by decide, hm]; decide))
  have hkd := devo_kind h0 hg
  show redexK t.kind (kidK l' (mainIx t.kind).toNat) = redexK t.kind (kidK t.kids (mainIx t.kind).toNat)
  rw [kidK_eq (by omega), kidK_eq h1, hkd]
/-- What DevelopTerm answers. -/
def DevOk (t : Tm) : Prop := t.Valid ∧ t.devo.isSome = true
noncomputable def Tm.dev (t : Tm) : Tm := t.devo.getD zeroT
theorem dev_of {t T : Tm} (h : t.devo = some T) : t.dev = T := by unfold Tm.dev; rw [h]; rfl
theorem dev_valid {t : Tm} (h : DevOk t) : t.dev.Valid := by
  obtain ⟨T, hT⟩ := Option.isSome_iff_exists.1 h.2
  rw [dev_of hT]
  exact devo_valid hT

end Go.Proofs.Ythmcgpppacodeaa
