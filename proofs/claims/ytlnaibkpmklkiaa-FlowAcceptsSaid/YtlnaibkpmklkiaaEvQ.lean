/- Functions, whatever the fuel. -/
import Derived.Test.YtlnaibkpmklkiaaEvZ
namespace Go.Proofs.Ytlnaibkpmklkiaa
open Go Go.RowKit
set_option linter.unusedVariables false
set_option linter.unusedSimpArgs false

/-- a family of calls that grows, and one that is their limit -/
structure Lim (C : Nat → Cl) (E : Cl) : Prop where
  mono : ∀ n m f a r, n ≤ m → (C n).p f a = some r → (C m).p f a = some r
  lim : ∀ f a r, E.p f a = some r → ∃ n, (C n).p f a = some r
  monoS : ∀ n m f a bl r, n ≤ m → (C n).s f a bl = some r → (C m).s f a bl = some r
  limS : ∀ f a bl r, E.s f a bl = some r → ∃ n, (C n).s f a bl = some r

section
variable {C : Nat → Cl} {E : Cl} (L : Lim C E)
include L

theorem callP_lim {bl : Blks} {ow : Bool} {f : Nat} {args : List PV} {x : PV × List Blk} (h : callP E.p bl ow f args = some x) : ∃ n, ∀ m, n ≤ m → callP (C m).p bl ow f args = some x := by
  unfold callP at h
  split at h
  · rename_i hlt
    split at h
    · rename_i r hr
      obtain ⟨n, hn⟩ := L.lim _ _ _ hr
      refine ⟨n, fun m hm => ?_⟩
      unfold callP
      rw [if_pos hlt, L.mono n m _ _ _ hm hn]
      exact h
    · cases h
  · rename_i hlt
    split at h
    · rename_i qs hqs
      split at h
      · rename_i r hr
        obtain ⟨n, hn⟩ := L.lim _ _ _ hr
        refine ⟨n, fun m hm => ?_⟩
        unfold callP
        rw [if_neg hlt, hqs]
        simp only
        rw [L.mono n m _ _ _ hm hn]
        exact h
      · cases h
    · cases h

theorem evPur_lim {sl : List PV} {bl : Blks} {ao : AOp} {x : PV × List Blk} (h : evPur E sl bl ao = some x) : ∃ n, ∀ m, n ≤ m → evPur (C m) sl bl ao = some x := by
  cases ao with
  | call ow f args => exact callP_lim L h
  | calld ow f args =>
    simp only [evPur] at h ⊢
    split at h
    · rename_i g caps hf
      obtain ⟨n, hn⟩ := callP_lim L h
      exact ⟨n, fun m hm => by simpa only using hn m hm⟩
    · cases h
  | _ => exact ⟨0, fun m _ => h⟩

theorem evEff_lim {sl : List PV} {bl : Blks} {ao : AOp} {x : PV × Blks} (h : evEff E sl bl ao = some x) : ∃ n, ∀ m, n ≤ m → evEff (C m) sl bl ao = some x := by
  cases ao with
  | callS f args =>
    simp only [evEff] at h ⊢
    split at h
    · rename_i p bl' hs
      obtain ⟨n, hn⟩ := L.limS _ _ _ _ hs
      exact ⟨n, fun m hm => by rw [L.monoS n m _ _ _ _ hm hn]; exact h⟩
    · cases h
  | _ => exact ⟨0, fun m _ => h⟩

theorem evOp_lim {st st' : St} {o : AOper} (h : evOp E st o = some st') : ∃ n, ∀ m, n ≤ m → evOp (C m) st o = some st' := by
  unfold evOp at h
  split at h
  · rename_i he
    split at h
    · rename_i p bl' hev
      obtain ⟨n, hn⟩ := evEff_lim L hev
      exact ⟨n, fun m hm => by unfold evOp; rw [if_pos he, hn m hm]; exact h⟩
    · cases h
  · rename_i he
    split at h
    · rename_i p ns hev
      obtain ⟨n, hn⟩ := evPur_lim L hev
      exact ⟨n, fun m hm => by unfold evOp; rw [if_neg he, hn m hm]; exact h⟩
    · cases h

theorem evOne_lim {st st' : St} {o : AOper} (h : evOne E st o = some st') : ∃ n, ∀ m, n ≤ m → evOne (C m) st o = some st' := by
  unfold evOne at h
  split at h
  · rename_i hg
    obtain ⟨n, hn⟩ := evOp_lim L h
    exact ⟨n, fun m hm => by unfold evOne; rw [hg]; exact hn m hm⟩
  · rename_i s want hg
    split at h
    · rename_i b hb
      split at h
      · rename_i hbw
        obtain ⟨n, hn⟩ := evOp_lim L h
        exact ⟨n, fun m hm => by unfold evOne; rw [hg]; simp only; rw [hb]; simp only; rw [if_pos hbw]; exact hn m hm⟩
      · rename_i hbw
        exact ⟨0, fun m _ => by unfold evOne; rw [hg]; simp only; rw [hb]; simp only; rw [if_neg hbw]; exact h⟩
    · rename_i cs hb
      exact ⟨0, fun m _ => by unfold evOne; rw [hg]; simp only; rw [hb]; exact h⟩
    · cases h

theorem evOps_lim : ∀ {al : List AOper} {st st' : St}, evOps E al st = some st' → ∃ n, ∀ m, n ≤ m → evOps (C m) al st = some st'
  | [], st, st', h => ⟨0, fun m _ => h⟩
  | o :: al, st, st', h => by
    simp only [evOps] at h
    split at h
    · rename_i st1 h1
      obtain ⟨n1, hn1⟩ := evOne_lim L h1
      obtain ⟨n2, hn2⟩ := evOps_lim h
      exact ⟨max n1 n2, fun m hm => by simp only [evOps]; rw [hn1 m (by omega)]; exact hn2 m (by omega)⟩
    · cases h

theorem softGo_lim {soft : List Nat} : ∀ {al : List AOper} {i : Nat} {st : St} {x : List Nat × List Nat}, softGo E soft i al st = some x → ∃ n, ∀ m, n ≤ m → softGo (C m) soft i al st = some x
  | [], i, st, x, h => ⟨0, fun m _ => h⟩
  | o :: al, i, st, x, h => by
    simp only [softGo] at h
    split at h
    · rename_i st1 h1
      split at h
      · rename_i rd tg hgo
        obtain ⟨n1, hn1⟩ := evOne_lim L h1
        obtain ⟨n2, hn2⟩ := softGo_lim hgo
        exact ⟨max n1 n2, fun m hm => by simp only [softGo]; rw [hn1 m (by omega)]; simp only; rw [hn2 m (by omega)]; exact h⟩
      · cases h
    · cases h
theorem softChk_lim {soft : List Nat} {al : List AOper} {st : St} (h : softChk E soft al st = true) : ∃ n, ∀ m, n ≤ m → softChk (C m) soft al st = true := by
  unfold softChk at h
  split at h
  · rename_i rd tg hgo
    obtain ⟨n, hn⟩ := softGo_lim L hgo
    exact ⟨n, fun m hm => by unfold softChk; rw [hn m hm]; exact h⟩
  · cases h

omit L in
theorem evLoop_lim {b : St → Option Out} {bC : Nat → Nat → St → Option Out} {K : Nat} (hb : ∀ st out, b st = some out → ∃ n, ∀ m q, n ≤ m → K ≤ q → bC m q st = some out) {keep : List Nat} {n0 : Nat} :
    ∀ {k : Nat} {st : St} {out : Out}, evLoop b keep n0 k st = some out → ∃ n, ∀ m q j, n ≤ m → K ≤ q → k ≤ j → evLoop (bC m q) keep n0 j st = some out
  | 0, st, out, h => by simp [evLoop] at h
  | k + 1, st, out, h => by
    simp only [evLoop] at h
    split at h
    · rename_i st1 h1
      obtain ⟨n1, hn1⟩ := hb _ _ h1
      obtain ⟨n2, hn2⟩ := evLoop_lim hb h
      refine ⟨max n1 n2, fun m q j hm hq hj => ?_⟩
      obtain ⟨j', rfl⟩ : ∃ j', j = j' + 1 := ⟨j - 1, by omega⟩
      simp only [evLoop]
      rw [hn1 m q (by omega) hq]
      exact hn2 m q j' (by omega) hq (by omega)
    · rename_i r hne
      obtain ⟨n1, hn1⟩ := hb _ _ h
      refine ⟨n1, fun m q j hm hq hj => ?_⟩
      obtain ⟨j', rfl⟩ : ∃ j', j = j' + 1 := ⟨j - 1, by omega⟩
      simp only [evLoop]
      rw [hn1 m q hm hq]
      cases out with
      | normal st' => exact absurd h (hne st')
      | exit id st' => rfl
      | ret st' => rfl

theorem evCode_lim {k : Nat} : ∀ {ac : AC} {st : St} {out : Out}, evCode E k ac st = some out → ∃ n, ∀ m q, n ≤ m → k ≤ q → evCode (C m) q ac st = some out
  | .skip, st, out, h => ⟨0, fun m q _ _ => h⟩
  | .reg ops, st, out, h => by
    simp only [evCode] at h
    split at h
    · rename_i st1 h1
      obtain ⟨n, hn⟩ := evOps_lim L h1
      exact ⟨n, fun m q hm _ => by simp only [evCode]; rw [hn m hm]; exact h⟩
    · cases h
  | .regd soft ops, st, out, h => by
    simp only [evCode] at h
    split at h
    · rename_i st1 h1
      split at h
      · rename_i hck
        obtain ⟨n, hn⟩ := evOps_lim L h1
        obtain ⟨n2, hn2⟩ := softChk_lim L hck
        exact ⟨max n n2, fun m q hm _ => by simp only [evCode]; rw [hn m (by omega)]; simp only; rw [if_pos (hn2 m (by omega))]; exact h⟩
      · cases h
    · cases h
  | .seq a b, st, out, h => by
    simp only [evCode] at h
    split at h
    · rename_i st1 h1
      obtain ⟨n1, hn1⟩ := evCode_lim h1
      obtain ⟨n2, hn2⟩ := evCode_lim h
      exact ⟨max n1 n2, fun m q hm hq => by simp only [evCode]; rw [hn1 m q (by omega) hq]; exact hn2 m q (by omega) hq⟩
    · rename_i r hne
      obtain ⟨n1, hn1⟩ := evCode_lim h
      refine ⟨n1, fun m q hm hq => ?_⟩
      simp only [evCode]
      rw [hn1 m q hm hq]
      cases out with
      | normal st' => exact absurd h (hne st')
      | exit id st' => rfl
      | ret st' => rfl
  | .cond c a b, st, out, h => by
    simp only [evCode] at h
    split at h
    · rename_i t ht
      split at h
      · rename_i htt
        obtain ⟨n1, hn1⟩ := evCode_lim h
        exact ⟨n1, fun m q hm hq => by simp only [evCode]; rw [ht]; simp only; rw [if_pos htt]; exact hn1 m q hm hq⟩
      · rename_i htt
        obtain ⟨n1, hn1⟩ := evCode_lim h
        exact ⟨n1, fun m q hm hq => by simp only [evCode]; rw [ht]; simp only; rw [if_neg htt]; exact hn1 m q hm hq⟩
    · cases h
  | .block id a, st, out, h => by
    simp only [evCode] at h
    split at h
    · rename_i id' st1 h1
      obtain ⟨n1, hn1⟩ := evCode_lim h1
      exact ⟨n1, fun m q hm hq => by simp only [evCode]; rw [hn1 m q hm hq]; exact h⟩
    · rename_i r hne
      obtain ⟨n1, hn1⟩ := evCode_lim h
      refine ⟨n1, fun m q hm hq => ?_⟩
      simp only [evCode]
      rw [hn1 m q hm hq]
      cases out with
      | normal st' => rfl
      | exit id' st' => exact absurd h (hne id' st')
      | ret st' => rfl
  | .loop keep a, st, out, h => by
    simp only [evCode] at h
    obtain ⟨n, hn⟩ := evLoop_lim (bC := fun m q => evCode (C m) q a) (K := k) (fun st out h => evCode_lim h) h
    exact ⟨n, fun m q hm hq => by simp only [evCode]; exact hn m q q hm hq hq⟩
  | .exit id, st, out, h => ⟨0, fun m q _ _ => h⟩
  | .ret, st, out, h => ⟨0, fun m q _ _ => h⟩
  | .stuck, st, out, h => by simp [evCode] at h
end

theorem evF_monos {D : Nat → Option AFn} : ∀ (n : Nat), (∀ (f : Nat) (a : List PV) (r : PV), (evF D n).p f a = some r → ∀ m, n ≤ m → (evF D m).p f a = some r) ∧
    ∀ (f : Nat) (a : List PV) (bl : Blks) (r : PV × Blks), (evF D n).s f a bl = some r → ∀ m, n ≤ m → (evF D m).s f a bl = some r
  | 0 => ⟨fun f a r h m _ => by simp [evF] at h, fun f a bl r h m _ => by simp [evF] at h⟩
  | n + 1 => by
    obtain ⟨ih1, ih2⟩ := evF_monos (D := D) n
    have L : ∀ m', n ≤ m' → Lim (fun _ => evF D m') (evF D n) := fun m' hm => ⟨fun _ _ _ _ _ _ h => h, fun f a r h => ⟨0, ih1 f a r h m' hm⟩, fun _ _ _ _ _ _ _ h => h, fun f a bl r h => ⟨0, ih2 f a bl r h m' hm⟩⟩
    refine ⟨fun f a r h m hm => ?_, fun f a bl r h m hm => ?_⟩
    · obtain ⟨m', rfl⟩ : ∃ m', m = m' + 1 := ⟨m - 1, by omega⟩
      simp only [evF] at h ⊢
      split at h
      · rename_i fc hfc
        split at h
        · exact h
        · cases h
        · rename_i hext
          split at h
          · rename_i hnp
            rw [if_pos hnp]
            cases ho : evCode (evF D n) n fc.code ⟨a ++ List.replicate (fc.nt - fc.np) .top, []⟩ with
            | none => rw [ho] at h; simp [endP] at h
            | some out =>
              obtain ⟨N, hN⟩ := evCode_lim (L m' (by omega)) ho
              rw [hN N m' (Nat.le_refl _) (by omega), ← ho]
              exact h
          · cases h
      · cases h
    · obtain ⟨m', rfl⟩ : ∃ m', m = m' + 1 := ⟨m - 1, by omega⟩
      simp only [evF] at h ⊢
      split at h
      · rename_i fc hfc
        split at h
        · exact h
        · cases h
        · rename_i hext
          split at h
          · rename_i hnp
            rw [if_pos hnp]
            cases ho : evCode (evF D n) n fc.code ⟨a ++ List.replicate (fc.nt - fc.np) .top, bl⟩ with
            | none => rw [ho] at h; simp [endS] at h
            | some out =>
              obtain ⟨N, hN⟩ := evCode_lim (L m' (by omega)) ho
              rw [hN N m' (Nat.le_refl _) (by omega), ← ho]
              exact h
          · cases h
      · cases h

theorem evF_mono {D : Nat → Option AFn} (n f : Nat) (a : List PV) (r : PV) (h : (evF D n).p f a = some r) (m : Nat) (hm : n ≤ m) : (evF D m).p f a = some r := (evF_monos n).1 f a r h m hm

open Classical in
/-- what a function answers, with fuel enough -/
noncomputable def evE (D : Nat → Option AFn) (f : Nat) (a : List PV) : Option PV := if h : ∃ r n, (evF D n).p f a = some r then some h.choose else none
open Classical in
/-- the same upon the caller's blocks -/
noncomputable def evS (D : Nat → Option AFn) (f : Nat) (a : List PV) (bl : Blks) : Option (PV × Blks) := if h : ∃ r n, (evF D n).s f a bl = some r then some h.choose else none
noncomputable def evC (D : Nat → Option AFn) : Cl := ⟨evE D, evS D⟩
theorem evC_p (D : Nat → Option AFn) : (evC D).p = evE D := rfl
theorem evC_s (D : Nat → Option AFn) : (evC D).s = evS D := rfl

theorem evE_of {D : Nat → Option AFn} {n f : Nat} {a : List PV} {r : PV} (h : (evF D n).p f a = some r) : evE D f a = some r := by
  have hx : ∃ r n, (evF D n).p f a = some r := ⟨r, n, h⟩
  unfold evE
  rw [dif_pos hx]
  obtain ⟨m, hm⟩ := hx.choose_spec
  have h1 := evF_mono n f a r h (max n m) (Nat.le_max_left _ _)
  have h2 := evF_mono m f a _ hm (max n m) (Nat.le_max_right _ _)
  rw [h1] at h2
  exact h2.symm

theorem evS_of {D : Nat → Option AFn} {n f : Nat} {a : List PV} {bl : Blks} {r : PV × Blks} (h : (evF D n).s f a bl = some r) : evS D f a bl = some r := by
  have hx : ∃ r n, (evF D n).s f a bl = some r := ⟨r, n, h⟩
  unfold evS
  rw [dif_pos hx]
  obtain ⟨m, hm⟩ := hx.choose_spec
  have h1 := (evF_monos n).2 f a bl r h (max n m) (Nat.le_max_left _ _)
  have h2 := (evF_monos m).2 f a bl _ hm (max n m) (Nat.le_max_right _ _)
  rw [h1] at h2
  exact h2.symm

theorem evE_ex {D : Nat → Option AFn} {f : Nat} {a : List PV} {r : PV} (h : evE D f a = some r) : ∃ n, (evF D n).p f a = some r := by
  unfold evE at h
  split at h
  · rename_i hx
    obtain ⟨m, hm⟩ := hx.choose_spec
    cases h
    exact ⟨m, hm⟩
  · cases h
theorem evS_ex {D : Nat → Option AFn} {f : Nat} {a : List PV} {bl : Blks} {r : PV × Blks} (h : evS D f a bl = some r) : ∃ n, (evF D n).s f a bl = some r := by
  unfold evS at h
  split at h
  · rename_i hx
    obtain ⟨m, hm⟩ := hx.choose_spec
    cases h
    exact ⟨m, hm⟩
  · cases h

theorem evE_lim (D : Nat → Option AFn) : Lim (evF D) (evC D) := ⟨fun n m f a r hnm h => evF_mono n f a r h m hnm, fun f a r h => evE_ex h, fun n m f a bl r hnm h => (evF_monos n).2 f a bl r h m hnm, fun f a bl r h => evS_ex h⟩

/-- A FUNCTION, BY ITS CODE -/
theorem evE_intro {D : Nat → Option AFn} {f : Nat} {fc : AFn} {args : List PV} {r : PV} (k : Nat) (hD : D f = some fc) (hl : args.length = fc.np) (h : endP fc.res (evCode (evC D) k fc.code ⟨args ++ List.replicate (fc.nt - fc.np) .top, []⟩) = some r) (hx : fc.ext = none := by rfl) : evE D f args = some r := by
  cases ho : evCode (evC D) k fc.code ⟨args ++ List.replicate (fc.nt - fc.np) .top, []⟩ with
  | none => rw [ho] at h; simp [endP] at h
  | some out =>
    obtain ⟨N, hN⟩ := evCode_lim (evE_lim D) ho
    refine evE_of (n := max N k + 1) ?_
    simp only [evF, hD, hx]
    rw [if_pos hl, (evE_lim D |> fun L => by
      have := hN (max N k) (max N k) (Nat.le_max_left _ _) (Nat.le_max_right _ _)
      exact this : evCode (evF D (max N k)) (max N k) fc.code ⟨args ++ List.replicate (fc.nt - fc.np) .top, []⟩ = some out), ← ho]
    exact h

/-- THE SAME UPON THE CALLER'S BLOCKS -/
theorem evS_intro {D : Nat → Option AFn} {f : Nat} {fc : AFn} {args : List PV} {bl : Blks} {r : PV × Blks} (k : Nat) (hD : D f = some fc) (hl : args.length = fc.np) (h : endS fc.res bl.length (evCode (evC D) k fc.code ⟨args ++ List.replicate (fc.nt - fc.np) .top, bl⟩) = some r) (hx : fc.ext = none := by rfl) : evS D f args bl = some r := by
  cases ho : evCode (evC D) k fc.code ⟨args ++ List.replicate (fc.nt - fc.np) .top, bl⟩ with
  | none => rw [ho] at h; simp [endS] at h
  | some out =>
    obtain ⟨N, hN⟩ := evCode_lim (evE_lim D) ho
    refine evS_of (n := max N k + 1) ?_
    simp only [evF, hD, hx]
    rw [if_pos hl, (evE_lim D |> fun L => by
      have := hN (max N k) (max N k) (Nat.le_max_left _ _) (Nat.le_max_right _ _)
      exact this : evCode (evF D (max N k)) (max N k) fc.code ⟨args ++ List.replicate (fc.nt - fc.np) .top, bl⟩ = some out), ← ho]
    exact h

/-- a function of which something is given -/
theorem evE_ext {D : Nat → Option AFn} {f : Nat} {fc : AFn} {x : List PV → Option PV} {args : List PV} {r : PV} (hD : D f = some fc) (hx : fc.ext = some (.p x)) (h : x args = some r) : evE D f args = some r :=
  evE_of (n := 1) (by simp only [evF, hD, hx]; exact h)
theorem evS_ext {D : Nat → Option AFn} {f : Nat} {fc : AFn} {x : List PV → Blks → Option (PV × Blks)} {args : List PV} {bl : Blks} {r : PV × Blks} (hD : D f = some fc) (hx : fc.ext = some (.s x)) (h : x args bl = some r) : evS D f args bl = some r :=
  evS_of (n := 1) (by simp only [evF, hD, hx]; exact h)

/-- what lies in a world's memory at the beginning -/
noncomputable def bsC (w : World) : Nat → Nat → Option Value := (allM w).cell
noncomputable def bsO (w : World) : Nat → Option Obj := fun g => if (bsC w g 0).isSome then w.heap[g]? else none
theorem bsO_ok (w : World) : ∀ g ob, bsO w g = some ob → (∃ u, bsC w g 0 = some u) ∧ w.heap[g]? = some ob := by
  intro g ob h
  unfold bsO at h
  split at h
  · rename_i hs
    exact ⟨Option.isSome_iff_exists.1 hs, h⟩
  · cases h
theorem lawE_calls {P : Program} {D : Nat → Option AFn} {f : Nat} {ps : List PV} {vs : Array Value} {w : World} (hD : @DOk ⟨bsC w, bsO w⟩ P D) (hl : ps.length = vs.toList.length) (hr : ∀ (i : Nat) (p : PV), ps[i]? = some p → Rep (allM w) 0 p (vs.toList.getD i undef))
    (h : evE D f ps = some (.bool true)) (hbd : ∃ fn, P.funcs[f]? = some fn ∧ fn.body.isSome = true) : Calls P f vs w fun e w' => e = .returned (.bool true) ∧ Below w.heap.size w w' := by
  obtain ⟨n, hn⟩ := evE_ex h
  exact @law_calls ⟨bsC w, bsO w⟩ _ _ hD _ _ _ _ _ ⟨fun _ _ _ h => h, bsO_ok w⟩ hl hr hn hbd

end Go.Proofs.Ytlnaibkpmklkiaa
