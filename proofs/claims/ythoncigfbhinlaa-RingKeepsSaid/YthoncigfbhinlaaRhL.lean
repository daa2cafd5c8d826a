/- ring: RingKeeps, of pure arguments. -/
import Derived.Test.YthoncigfbhinlaaRhK
namespace Go.Proofs.Ythoncigfbhinlaa
open Go Go.RowKit
set_option linter.unusedVariables false
set_option linter.unusedSimpArgs false
set_option maxHeartbeats 8000000

theorem f6 (p : Int) (D b : List Nat) (s e f m : Int) (ok : okB D) (okb : okB b) : evE Dg 6 [eR p (eB false D) s e f m, eB false b] = some (.bool true) := by
  by_cases c : D.length ≤ 70000 ∧ b.length ≤ 70000
  · by_cases h : errF p D s e f m = 0
    · obtain ⟨hD, hbl⟩ := c
      by_cases hb : 2000 < b.length ∨ D.length < (putF b.length ++ b).length
      · exact f6_err p D b s e f m 7 hD hbl ok h (by decide) (p23_long false p D b s e f m (by omega) ok h hb)
      · have hb1 : ¬ 2000 < b.length := fun q => hb (.inl q)
        have hb2 : ¬ D.length < (putF b.length ++ b).length := fun q => hb (.inr q)
        by_cases hf : p = 2 ∧ freF p D s e f m < (putF b.length ++ b).length
        · obtain ⟨rfl, hf⟩ := hf
          exact f6_err 2 D b s e f m 6 hD hbl ok h (by decide) (p23_full false D b s e f m (by omega) ok h hb1 hb2 hf)
        · have hf : p = 2 → ¬ freF p D s e f m < (putF b.length ++ b).length := fun q r => hf ⟨q, r⟩
          by_cases hr : 1000000000000000 < e + (putF b.length ++ b).length ∨ m = 1000000000000000
          · exact f6_err p D b s e f m 2 hD hbl ok h (by decide) (p23_range false p D b s e f m (by omega) ok h hb1 hb2 hf hr)
          · have hr1 : ¬ 1000000000000000 < e + (putF b.length ++ b).length := fun q => hr (.inl q)
            have hr2 : ¬ m = 1000000000000000 := fun q => hr (.inr q)
            obtain ⟨K, Z, hKZ⟩ : ∃ K Z, lstF (putF b.length ++ b).length (rmF D s e) (goodL p D s e f m) = (K, Z) := ⟨_, _, rfl⟩
            have r0 := p23_run false p D b s e f m (by omega) ok h hb1 hb2 hf hr1 hr2 K Z hKZ
            obtain ⟨g1, g2, g3⟩ := good_sz h
            have hle := lstF_le (putF b.length ++ b).length (rmF D s e) (goodL p D s e f m)
            have hmin := lstF_min (putF b.length ++ b).length (rmF D s e) (goodL p D s e f m)
            have hZ : ¬ rmF D s e + Z < (putF b.length ++ b).length := by
              have := lstF_room (putF b.length ++ b).length (rmF D s e) (goodL p D s e f m) (by omega)
              rw [hKZ] at this
              exact this
            obtain ⟨x1, x2⟩ := err_put h hb1 hb2 hr1 hr2 K Z hKZ hZ
            rw [hKZ] at hle hmin
            simp only at hle hmin
            obtain ⟨q1, q2⟩ := rm_fre h
            have hGl : (putF b.length ++ b).length ≤ 10000 := by have := putF_len b.length; rw [List.length_append]; omega
            have okW := wrF_ok (a := e.toNat) ok (okB_put (b := b) (by omega) okb) (putF b.length ++ b).length
            have lW := wrF_len D e.toNat (putF b.length ++ b) (putF b.length ++ b).length
            by_cases hK : K = 0
            · subst hK
              have htk := lstF_take (putF b.length ++ b).length (rmF D s e) (goodL p D s e f m)
              rw [hKZ] at htk
              have hz0 : Z = 0 := htk
              subst hz0
              simp only [Int.natCast_zero, Int.add_zero, Int.ofNat_zero, List.drop_zero] at r0 x1 x2
              exact f6_run0 p D b s e f m hD hbl ok h _ _ _ (by rw [lW]; exact hD) okW x1 x2 r0
            · have hp1 : p = 1 := by
                rcases (err_nums h).1 with hp | hp
                · exact hp
                · exfalso
                  have := hf hp
                  rw [q2] at this
                  apply hK
                  have h0 : lstF (putF b.length ++ b).length (rmF D s e) (goodL p D s e f m) = (0, 0) := by
                    cases goodL p D s e f m with
                    | nil => rfl
                    | cons r l => simp only [lstF]; rw [if_neg (by omega)]
                  rw [hKZ] at h0
                  exact (Prod.mk.inj h0).1
              subst hp1
              obtain ⟨r, m1, m2⟩ := hmin (by omega)
              have hrl := g2 r (List.mem_of_getElem? m1)
              have hfr : freF 1 (wrF D e.toNat (putF b.length ++ b) (putF b.length ++ b).length) (s + Z) (e + (putF b.length ++ b).length) (f + K) (m + 1) < szF r := by
                unfold freF
                rw [if_pos x1, lW]
                omega
              exact f6_run1 D b s e f m hD hbl ok h _ _ _ K (by rw [lW]; exact hD) okW (by omega) x1 x2 hle.1 r m1 hrl hfr r0
    · exact f6_out p D b s e f m ok (.inr h)
  · exact f6_out p D b s e f m ok (.inl c)
theorem law6 (ps : List PV) (h : ArgL Try.prog 12 [25, 23] ps) : evE Dg 6 ps = some (.bool true) := by
  obtain ⟨p, q, rfl, h1, h2⟩ := argL2 h
  obtain ⟨z, D, s, e, f, m, rfl, ok⟩ := in_ring h1
  obtain ⟨b, rfl, okb⟩ := in_bytes1 h2
  exact f6 z D b s e f m ok okb
end Go.Proofs.Ythoncigfbhinlaa
