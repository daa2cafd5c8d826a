/- event: read, all kinds together (written by mkEtU.py). -/
import Derived.Test.YtidkdiooempkpaaDoorEtTT
namespace Go.Proofs.YtidkdiooempkpaaDoor
open Go Go.RowKit Go.Lib
set_option linter.unusedVariables false
set_option linter.unusedSimpArgs false
set_option maxHeartbeats 4000000
set_option maxRecDepth 100000

theorem f36_yes (x : Bool) (W : List (List UInt8)) (k : Int) (hW : W.length ≤ 1000000000) (hl : ∀ i, i < i3 W k → (wAt W i).length ≤ lim) (hl3 : (wAt W (i3 W k)).length ≤ 1000000) (hk : kOf (wAt W 1) = k) (k1 : ¬ k < 1) (k2 : ¬ 12 < k) :
    evE Dg 36 [.sl x 1 (tR W)] = some (.tup [eO (rNil W k) (rE W k), .bool true]) := by
  rcases combo k1 k2 with ⟨a, b, c, d⟩ | ⟨a, b, c, d⟩ | ⟨a, b, c, d⟩ | ⟨a, b, c, d⟩ | ⟨a, b, c, d⟩ | ⟨a, b, c, d⟩ | ⟨a, b, c, d⟩
  · have e1 : i1 k = 3 := by unfold i1; rw [a]; rfl
    have en : rN W k = 0 := by unfold rN; rw [b]; rfl
    have e2 : i2 k = 3 := by unfold i2; rw [b, e1]; rfl
    have hu : uM (kC k) k (0) = false := by rw [c]; rfl
    have eu : rU W k = false := by unfold rU; rw [en]; exact hu
    have em : rM W k = 0 := by unfold rM; rw [eu]; rfl
    have e3 : i3 W k = 3 := by unfold i3; rw [eu, e2]; rfl
    rw [e3] at hl hl3
    have er : eO (rNil W k) (rE W k) = .agg [.int .i64 (pV (wAt W 0)), .int .i64 k, .str (wAt W 2), .int .i64 (0), .int .i64 (0), .nilS] := by
      unfold eO rNil rE
      rw [d, a, en, em]
      rfl
    rw [er]
    exact f36_0 x W k hW (fun i h => hl i (by omega)) hk k1 k2 a b c d hu
  · have e1 : i1 k = 2 := by unfold i1; rw [a]; rfl
    have en : rN W k = 0 := by unfold rN; rw [b]; rfl
    have e2 : i2 k = 2 := by unfold i2; rw [b, e1]; rfl
    have hu : uM (kC k) k (0) = false := by rw [c]; rfl
    have eu : rU W k = false := by unfold rU; rw [en]; exact hu
    have em : rM W k = 0 := by unfold rM; rw [eu]; rfl
    have e3 : i3 W k = 2 := by unfold i3; rw [eu, e2]; rfl
    rw [e3] at hl hl3
    have er : eO (rNil W k) (rE W k) = .agg [.int .i64 (pV (wAt W 0)), .int .i64 k, .str ([]), .int .i64 (0), .int .i64 (0), .nilS] := by
      unfold eO rNil rE
      rw [d, a, en, em]
      rfl
    rw [er]
    exact f36_1 x W k hW (fun i h => hl i (by omega)) hk k1 k2 a b c d hu
  · have e1 : i1 k = 3 := by unfold i1; rw [a]; rfl
    have en : rN W k = pV (wAt W 3) := by unfold rN; rw [b, e1]; rfl
    have e2 : i2 k = 4 := by unfold i2; rw [b, e1]; rfl
    have hu : uM (kC k) k (pV (wAt W 3)) = false := by rw [c]; rfl
    have eu : rU W k = false := by unfold rU; rw [en]; exact hu
    have em : rM W k = 0 := by unfold rM; rw [eu]; rfl
    have e3 : i3 W k = 4 := by unfold i3; rw [eu, e2]; rfl
    rw [e3] at hl hl3
    have er : eO (rNil W k) (rE W k) = .agg [.int .i64 (pV (wAt W 0)), .int .i64 k, .str (wAt W 2), .int .i64 (pV (wAt W 3)), .int .i64 (0), .nilS] := by
      unfold eO rNil rE
      rw [d, a, en, em]
      rfl
    rw [er]
    exact f36_2 x W k hW (fun i h => hl i (by omega)) hk k1 k2 a b c d hu
  · have e1 : i1 k = 2 := by unfold i1; rw [a]; rfl
    have en : rN W k = pV (wAt W 2) := by unfold rN; rw [b, e1]; rfl
    have e2 : i2 k = 3 := by unfold i2; rw [b, e1]; rfl
    have hu : uM (kC k) k (pV (wAt W 2)) = false := by rw [c]; rfl
    have eu : rU W k = false := by unfold rU; rw [en]; exact hu
    have em : rM W k = 0 := by unfold rM; rw [eu]; rfl
    have e3 : i3 W k = 3 := by unfold i3; rw [eu, e2]; rfl
    rw [e3] at hl hl3
    by_cases hE : wAt W 3 = [59]
    · have er : eO (rNil W k) (rE W k) = .agg [.int .i64 (pV (wAt W 0)), .int .i64 k, .str ([]), .int .i64 (pV (wAt W 2)), .int .i64 (0), .nilS] := by
        unfold eO rNil rE
        rw [d, a, en, em, e3, decide_eq_true hE]
        rfl
      rw [er]
      exact f36_3e x W k hW (fun i h => hl i (by omega)) hk k1 k2 a b c d hu hE
    · have er : eO (rNil W k) (rE W k) = .agg [.int .i64 (pV (wAt W 0)), .int .i64 k, .str ([]), .int .i64 (pV (wAt W 2)), .int .i64 (0), .sl false 1 (tR (cutB 59 (wAt W 3)))] := by
        have ers : rS W k = cutB 59 (wAt W 3) := by unfold rS; rw [d, e3, if_pos rfl, if_neg hE]
        unfold eO rNil rE
        rw [d, a, en, em, e3, decide_eq_false hE, ers]
        rfl
      rw [er]
      exact f36_3 x W k hW (fun i h => hl i (by omega)) hk k1 k2 a b c d hu hE hl3
  · have e1 : i1 k = 2 := by unfold i1; rw [a]; rfl
    have en : rN W k = pV (wAt W 2) := by unfold rN; rw [b, e1]; rfl
    have e2 : i2 k = 3 := by unfold i2; rw [b, e1]; rfl
    have hu : uM (kC k) k (pV (wAt W 2)) = false := by rw [c]; rfl
    have eu : rU W k = false := by unfold rU; rw [en]; exact hu
    have em : rM W k = 0 := by unfold rM; rw [eu]; rfl
    have e3 : i3 W k = 3 := by unfold i3; rw [eu, e2]; rfl
    rw [e3] at hl hl3
    have er : eO (rNil W k) (rE W k) = .agg [.int .i64 (pV (wAt W 0)), .int .i64 k, .str ([]), .int .i64 (pV (wAt W 2)), .int .i64 (0), .nilS] := by
      unfold eO rNil rE
      rw [d, a, en, em]
      rfl
    rw [er]
    exact f36_4 x W k hW (fun i h => hl i (by omega)) hk k1 k2 a b c d hu
  · cases hu : uM (kC k) k (pV (wAt W 2)) with
    | false =>
      have e1 : i1 k = 2 := by unfold i1; rw [a]; rfl
      have en : rN W k = pV (wAt W 2) := by unfold rN; rw [b, e1]; rfl
      have e2 : i2 k = 3 := by unfold i2; rw [b, e1]; rfl
      have eu : rU W k = false := by unfold rU; rw [en]; exact hu
      have em : rM W k = 0 := by unfold rM; rw [eu]; rfl
      have e3 : i3 W k = 3 := by unfold i3; rw [eu, e2]; rfl
      rw [e3] at hl hl3
      have er : eO (rNil W k) (rE W k) = .agg [.int .i64 (pV (wAt W 0)), .int .i64 k, .str ([]), .int .i64 (pV (wAt W 2)), .int .i64 (0), .nilS] := by
        unfold eO rNil rE
        rw [d, a, en, em]
        rfl
      rw [er]
      exact f36_5 x W k hW (fun i h => hl i (by omega)) hk k1 k2 a b c d hu
    | true =>
      have e1 : i1 k = 2 := by unfold i1; rw [a]; rfl
      have en : rN W k = pV (wAt W 2) := by unfold rN; rw [b, e1]; rfl
      have e2 : i2 k = 3 := by unfold i2; rw [b, e1]; rfl
      have eu : rU W k = true := by unfold rU; rw [en]; exact hu
      have em : rM W k = pV (wAt W 3) := by unfold rM; rw [eu, e2]; rfl
      have e3 : i3 W k = 4 := by unfold i3; rw [eu, e2]; rfl
      rw [e3] at hl hl3
      have er : eO (rNil W k) (rE W k) = .agg [.int .i64 (pV (wAt W 0)), .int .i64 k, .str ([]), .int .i64 (pV (wAt W 2)), .int .i64 (pV (wAt W 3)), .nilS] := by
        unfold eO rNil rE
        rw [d, a, en, em]
        rfl
      rw [er]
      exact f36_6 x W k hW (fun i h => hl i (by omega)) hk k1 k2 a b c d hu
  · have e1 : i1 k = 2 := by unfold i1; rw [a]; rfl
    have en : rN W k = pV (wAt W 2) := by unfold rN; rw [b, e1]; rfl
    have e2 : i2 k = 3 := by unfold i2; rw [b, e1]; rfl
    have hu : uM (kC k) k (pV (wAt W 2)) = true := by rw [c]; unfold uM; rw [decide_eq_false (fun h => by rw [h] at d; exact absurd d (by decide))]; rfl
    have eu : rU W k = true := by unfold rU; rw [en]; exact hu
    have em : rM W k = pV (wAt W 3) := by unfold rM; rw [eu, e2]; rfl
    have e3 : i3 W k = 4 := by unfold i3; rw [eu, e2]; rfl
    rw [e3] at hl hl3
    by_cases hE : wAt W 4 = [59]
    · have er : eO (rNil W k) (rE W k) = .agg [.int .i64 (pV (wAt W 0)), .int .i64 k, .str ([]), .int .i64 (pV (wAt W 2)), .int .i64 (pV (wAt W 3)), .nilS] := by
        unfold eO rNil rE
        rw [d, a, en, em, e3, decide_eq_true hE]
        rfl
      rw [er]
      exact f36_7e x W k hW (fun i h => hl i (by omega)) hk k1 k2 a b c d hu hE
    · have er : eO (rNil W k) (rE W k) = .agg [.int .i64 (pV (wAt W 0)), .int .i64 k, .str ([]), .int .i64 (pV (wAt W 2)), .int .i64 (pV (wAt W 3)), .sl false 1 (tR (cutB 59 (wAt W 4)))] := by
        have ers : rS W k = cutB 59 (wAt W 4) := by unfold rS; rw [d, e3, if_pos rfl, if_neg hE]
        unfold eO rNil rE
        rw [d, a, en, em, e3, decide_eq_false hE, ers]
        rfl
      rw [er]
      exact f36_7 x W k hW (fun i h => hl i (by omega)) hk k1 k2 a b c d hu hE hl3
end Go.Proofs.YtidkdiooempkpaaDoor
