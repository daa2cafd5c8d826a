/- Samples: the pure reading of functions. -/
import Derived.Test.YtgipbahlcnageaaEvP
namespace Go.Proofs.Ytgipbahlcnageaa
open Go Go.RowKit
set_option linter.unusedVariables false
set_option linter.unusedSimpArgs false

structure Smp where
  th : Int
  at_ : Int
  wt : Int
  st : List (List UInt8)
def eTx (l : List (List UInt8)) : PV := .sl false 1 (l.map fun t => [.str t])
def eSmp (s : Smp) : List PV := [.int .i64 s.th, .int .i64 s.at_, .int .i64 s.wt, eTx s.st]
def eSmps (l : List Smp) : PV := .sl false 4 (l.map eSmp)
def inR (s : Smp) : Bool := decide (0 ≤ s.th) && decide (s.th ≤ 1000000000000000) && decide (0 ≤ s.at_) && decide (s.at_ ≤ 1000000000000) && decide (1 ≤ s.wt) && decide (s.wt ≤ 1000000000000)

theorem f25 (s : Smp) : evE Dg 25 [.agg (eSmp s)] = some (.bool (inR s)) := by
  refine evE_intro 1 D25 rfl ?_
  unfold c25
  short [0 ≤ s.th, s.th ≤ 1000000000000000, 0 ≤ s.at_, s.at_ ≤ 1000000000000, 1 ≤ s.wt, s.wt ≤ 1000000000000] with ev_all [eSmp, eTx, inR]

theorem f31 (s : Smp) : evE Dg 31 [.agg (eSmp s)] = some (.bool true) := by
  refine evE_intro 1 D31 rfl ?_
  unfold c31
  ev_simp [eSmp, eTx]

def addW (W : Smp → Bool) (x : Int) (s : Smp) : Int := if inR s && W s then (if 1000000000000000 < x + s.wt then 1000000000000000 else x + s.wt) else x
def sumW (W : Smp → Bool) (l : List Smp) : Int := l.foldl (addW W) 0

def S29 (f : Nat) (l : List Smp) (k : Nat) (x : Int) : St := ⟨[.top, .fn f [], .top, .top, .top, .int .i64 x, .top, .top, eSmps l, .int .i64 l.length, .int .i64 k] ++ List.replicate 17 .top, []⟩

theorem inR_wt {s : Smp} (h : inR s = true) : 1 ≤ s.wt ∧ s.wt ≤ 1000000000000 := by
  simp [inR] at h; omega

theorem f29 (f : Nat) (W : Smp → Bool) (l : List Smp) (hl : l.length ≤ 140737488355328) (hW : ∀ s ∈ l, evE Dg f [.agg (eSmp s)] = some (.bool (W s))) :
    evE Dg 29 [eSmps l, .fn f []] = some (.int .i64 (sumW W l)) ∧ 0 ≤ sumW W l ∧ sumW W l ≤ 1000000000000000 := by
  have H := fun s0 h0 => loop_fold (body := evCode (evE Dg) (l.length + 1) c29b0) (keep := [1, 5, 8, 9, 10]) (n0 := 0) (s0 := s0) (x0 := 0) (fuel := l.length + 1) l (S29 f l) (addW W) (fun _ x => 0 ≤ x ∧ x ≤ 1000000000000000)
    (by
      intro k a x ha hk hx
      have hW := hW a (List.mem_of_getElem? ha)
      have h1 := wrap_i64 ((k : Int) + 1) (by omega) (by omega)
      have h25 := f25 a
      have hk' : (k : Int) < l.length := by omega
      by_cases hi : inR a = true
      · obtain ⟨g1, g2⟩ := inR_wt hi
        have h2 := wrap_i64 (x + a.wt) (by omega) (by omega)
        by_cases hw : W a = true
        · refine ⟨by simp only [addW, hi, hw]; simp; split <;> omega, ?_⟩
          rw [hi] at h25
          rw [hw] at hW
          simp only [eSmp, eTx] at h25 hW
          unfold c29b0
          ev_simp [S29, eSmps, eSmp, eTx, ha, hk', h25, hW, h1, h2, addW, hi, hw]
        · have hw : W a = false := by simpa using hw
          refine ⟨by simp only [addW, hi, hw]; simp; omega, ?_⟩
          rw [hi] at h25
          rw [hw] at hW
          simp only [eSmp, eTx] at h25 hW
          unfold c29b0
          ev_simp [S29, eSmps, eSmp, eTx, ha, hk', h25, hW, h1, addW, hi, hw]
      · have hi : inR a = false := by simpa using hi
        refine ⟨by simp only [addW, hi]; simp; omega, ?_⟩
        rw [hi] at h25
        simp only [eSmp, eTx] at h25
        unfold c29b0
        ev_simp [S29, eSmps, eSmp, eTx, ha, hk', h25, h1, addW, hi])
    (by
      intro x hx s
      unfold c29b0
      ev_simp [S29, eSmps]) (by omega) h0 (by omega)
  have H2 := (H (S29 f l 0 0) (by ev_simp [S29, eSmps])).2
  have H1 := fun s0 h0 => (H s0 h0).1
  refine ⟨evE_intro (l.length + 1) D29 rfl ?_, H2⟩
  have H3 : evCode (evE Dg) (l.length + 1) c29b0 (S29 f l l.length (sumW W l)) = some (.exit 0 ⟨[.top, .fn f [], .top, .top, .top, .int .i64 (sumW W l), .top, .top, eSmps l, .int .i64 l.length, .int .i64 l.length, .bool false] ++ List.replicate 16 .top, []⟩) := by
    unfold c29b0
    ev_simp [S29, eSmps]
  have H1 := fun s0 h0 => (H1 s0 h0).trans H3
  unfold c29
  ev_simp [eSmps, S29]
  rw [H1 _ (by ev_simp [eSmps, S29])]
  ev_simp [eSmps]

theorem f20 (l : List Smp) (hl : l.length ≤ 140737488355328) : evE Dg 20 [eSmps l] = some (.int .i64 (sumW (fun _ => true) l)) := by
  refine evE_intro 1 D20 rfl ?_
  unfold c20
  have h := (f29 31 (fun _ => true) l hl (fun s _ => f31 s)).1
  simp only [eSmps] at h
  ev_simp [eSmps, h]
end Go.Proofs.Ytgipbahlcnageaa
