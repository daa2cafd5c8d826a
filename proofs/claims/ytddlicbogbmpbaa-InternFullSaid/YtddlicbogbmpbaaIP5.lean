/- intern: PutStack. -/
import Derived.Test.YtddlicbogbmpbaaIP4
namespace Go.Proofs.Ytddlicbogbmpbaa
open Go Go.RowKit
set_option linter.unusedVariables false
set_option linter.unusedSimpArgs false
set_option maxHeartbeats 4000000

/-- a fold that may end with an error -/
def foldX {α σ : Type} (step : σ → α → Except Int σ) : List α → σ → Except Int σ
  | [], x => .ok x
  | a :: r, x => match step x a with
    | .ok y => foldX step r y
    | .error e => .error e

/-- A LOOP THAT GOES ON, OR RETURNS AN ERROR; the state has more than the fold's -/
theorem loop_exc {α σ ε : Type} {body : St → Option Out} {keep : List Nat} {n0 : Nat} (L : List α) (S : Nat → σ → ε → St) (step : σ → α → Except Int σ) (I : Nat → σ → ε → Prop) (R : Int → St → Prop)
    (hok : ∀ k a x z y, L[k]? = some a → k < L.length → I k x z → step x a = .ok y → ∃ z' s', body (S k x z) = some (.normal s') ∧ norm keep n0 s' = S (k + 1) y z' ∧ I (k + 1) y z')
    (herr : ∀ k a x z e, L[k]? = some a → k < L.length → I k x z → step x a = .error e → ∃ s', body (S k x z) = some (.ret s') ∧ R e s')
    (hend : ∀ x z, I L.length x z → ∀ s, body (S L.length x z) ≠ some (.normal s)) {fuel : Nat} (hf : L.length < fuel) (x0 : σ) (z0 : ε) (hI0 : I 0 x0 z0) (s0 : St) (E : Option Out) (hE : evLoop body keep n0 fuel s0 = E) (h0 : norm keep n0 s0 = S 0 x0 z0) :
    (∃ y z, foldX step L x0 = .ok y ∧ I L.length y z ∧ E = body (S L.length y z)) ∨ (∃ e s, foldX step L x0 = .error e ∧ E = some (.ret s) ∧ R e s) := by
  subst hE
  have key : ∀ (r : List α) (k fuel : Nat) (s : St) (x : σ) (z : ε), (∀ i, r[i]? = L[k + i]?) → k + r.length = L.length → r.length < fuel → norm keep n0 s = S k x z → I k x z →
      (∃ y z, foldX step r x = .ok y ∧ I L.length y z ∧ evLoop body keep n0 fuel s = body (S L.length y z)) ∨ (∃ e o, foldX step r x = .error e ∧ evLoop body keep n0 fuel s = some (.ret o) ∧ R e o) := by
    intro r
    induction r with
    | nil =>
      intro k fuel s x z hr hl hfu hs hx
      obtain ⟨f', rfl⟩ : ∃ f', fuel = f' + 1 := ⟨fuel - 1, by simp at hfu; omega⟩
      have hk : k = L.length := by simpa using hl
      subst hk
      refine .inl ⟨x, z, rfl, hx, ?_⟩
      rw [evLoop, hs]
      cases hb : body (S L.length x z) with
      | none => rfl
      | some o => cases o with
        | normal st => exact absurd hb (hend x z hx st)
        | exit id st => rfl
        | ret st => rfl
    | cons a r ih =>
      intro k fuel s x z hr hl hfu hs hx
      obtain ⟨f', rfl⟩ : ∃ f', fuel = f' + 1 := ⟨fuel - 1, by simp at hfu; omega⟩
      have hla : L[k]? = some a := by simpa using (hr 0).symm
      have hkl : k < L.length := (List.getElem?_eq_some_iff.1 hla).1
      simp only [foldX]
      cases hst : step x a with
      | ok y =>
        obtain ⟨z', s', g2, g3, g4⟩ := hok k a x z y hla hkl hx hst
        simp only [evLoop, hs]
        rw [g2]
        exact ih (k + 1) f' s' y z' (fun i => by have := hr (i + 1); rw [show k + (i + 1) = k + 1 + i by omega] at this; simpa using this) (by simp at hl; omega) (by simp at hfu; omega) g3 g4
      | error e =>
        obtain ⟨s', g2, g3⟩ := herr k a x z e hla hkl hx hst
        refine .inr ⟨e, s', rfl, ?_, g3⟩
        simp only [evLoop, hs]
        rw [g2]
  exact key L 0 fuel s0 x0 z0 (fun i => by simp) (by simp) hf h0 hI0

structure PS where
  n : List (List UInt8)
  T : List (Int × Int)
  ix : Int
def stepP (x : PS) (a : List UInt8) : Except Int PS :=
  if (putR x.n a).2.2 = 0 then
    if 0 ≤ idx x.T (x.ix, (putR x.n a).1) then .ok ⟨(putR x.n a).2.1, x.T, idx x.T (x.ix, (putR x.n a).1)⟩
    else if 1000 ≤ x.T.length then .error 6 else .ok ⟨(putR x.n a).2.1, x.T ++ [(x.ix, (putR x.n a).1)], x.T.length⟩
  else .error (putR x.n a).2.2

def putS (n : List (List UInt8)) (T : List (Int × Int)) (l : List (List UInt8)) : Int × List (List UInt8) × List (Int × Int) × Int :=
  if framesE l = 0 then match foldX stepP l ⟨n, T, -1⟩ with
    | .ok y => (y.ix, y.n, y.T, 0)
    | .error e => (0, n, T, e)
  else (0, n, T, framesE l)

theorem putR_len (n : List (List UInt8)) (s : List UInt8) (h : n.length ≤ 1100) : (putR n s).2.1.length ≤ 1100 := by
  unfold putR
  repeat' split
  all_goals simp
  all_goals omega

/-- what the loop has beside: whether the names are exact, the own stacks, a block that is not needed -/
structure XS where
  xn : Bool
  own : Bool
  g : Option Blk
def stkPV (T : List (Int × Int)) (z : XS) : PV := if z.own then .own 3 T.length 0 T.length else eSt true T
def b0 : Option Blk := some ⟨0, 1, true, []⟩
def b1 : Option Blk := some ⟨0, 2, true, []⟩
def stkBl (T : List (Int × Int)) (z : XS) : Blks := if z.own then [b0, b1, z.g, some ⟨T.length, 2, true, T.map eP⟩] else [b0, b1]
def S21 (x y : Bool) (n : List (List UInt8)) (T : List (Int × Int)) (l : List (List UInt8)) (k : Nat) (u : PS) (z : XS) : St :=
  ⟨[eN x n, eSt y T, .top, .top, .top, .top, .top, .top, .top, .top, .top, eN z.xn u.n, stkPV u.T z, .int .i64 u.ix, .top, .top, .top, .top, .top, .top, .top, .top, .top, .top, .top, .top, .top, .top, .top, .top, eTx l, .int .i64 l.length, .int .i64 k] ++ List.replicate 39 .top, stkBl u.T z⟩
def I21 (n0 : Nat) (k : Nat) (u : PS) (z : XS) : Prop := u.n.length ≤ 1100 ∧ u.T.length ≤ 1100 ∧ (z.own = true → ∃ r, z.g = some ⟨1, 2, true, [r]⟩)

theorem hidx (C : Blks) (T : List (Int × Int)) (hl : T.length ≤ 1000000) (y : Bool) (p q : Int) : callP (evE Dg) C false 36 [eSt y T, .agg [.int .i64 p, .int .i64 q]] = some (.int .i64 (idx T (p, q)), []) :=
  callP_unfr (f36 y T (p, q) hl) rfl rfl rfl
theorem hidx2 (C : Blks) (T : List (Int × Int)) (hl : T.length ≤ 1000000) (y : Bool) (p q : Int) : callP (evE Dg) C false 31 [eSt y T, .agg [.int .i64 p, .int .i64 q]] = some (.int .i64 (idx T (p, q)), []) :=
  callP_unfr (f31 y T (p, q) hl) rfl rfl rfl
theorem hidxO (g : Option Blk) (r : List PV) (T : List (Int × Int)) (hl : T.length ≤ 1000000) (p q : Int) :
    callP (evE Dg) [b0, b1, g, some ⟨T.length, 2, true, T.map eP⟩, some ⟨1, 2, true, [r]⟩] false 36 [.own 3 T.length 0 T.length, .agg [.int .i64 p, .int .i64 q]] = some (.int .i64 (idx T (p, q)), []) := by
  have ht : List.take T.length (List.map eP T) = List.map eP T := List.take_of_length_le (by simp)
  have hc : mapO (cls clsFuel [b0, b1, g, some ⟨T.length, 2, true, T.map eP⟩, some ⟨1, 2, true, [r]⟩]) [.own 3 T.length 0 T.length, .agg [.int .i64 p, .int .i64 q]] = some [.sl false 2 (List.take T.length (T.map eP)), .agg [.int .i64 p, .int .i64 q]] := by
    simp [mapO, cls, clsFuel, PV.lt, PV.lt.ltL, getB, mapE]
  have h := f36 false T (p, q) hl
  simp only [eSt, eP] at h
  unfold callP
  rw [hc, ht]
  simp only [PV.lt.ltL, PV.lt, Nat.blt_eq, Bool.false_and, Nat.not_lt_zero, decide_false, Bool.false_eq_true, if_false, h]
  rfl
end Go.Proofs.Ytddlicbogbmpbaa
