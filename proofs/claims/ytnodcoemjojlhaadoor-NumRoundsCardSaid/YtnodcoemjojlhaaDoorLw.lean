/- num: what the rows lay: the table that strconv reads, out of the condition; the door's own heap meets it. -/
import Derived.Test.YtnodcoemjojlhaaDoorEvP
import Derived.Test.YtnodcoemjojlhaaDoorRows
import Derived.LaidMore
import Derived.OpenShut
import Derived.ProofKit
import Derived.Stop.Joined
namespace Go.Proofs.YtnodcoemjojlhaaDoor
open Go Go.RowKit Go.ChangeShapes Go.WideShapes Go.ChangeAt
set_option linter.unusedVariables false

theorem door_met (os : Os) (args : Array Value) : laidMetH Tryd.prog Rows.numSumsRow.laid ((World.doorLaid Tryd.prog 400 os).forCall (fun _ _ => 0) ⟨#[], args, []⟩).memory :=
  laidMetH_of_parts3 (fuel := 8) (laidMet_of_run' 8 (by kernel_rfl) (by kernel_rfl)) (by kernel_rfl) (by kernel_rfl)

theorem tab_of {W : World} (h : laidMetH Tryd.prog Rows.numSumsRow.laid W) : Lib.TabIs Tryd.prog W nmPow .u64 Lib.pow10Tab := by
  rw [MakeChecks.laidMetH_plain _ _ _ (by kernel_rfl)] at h
  obtain ⟨ps, ⟨g0, t0, cs0, fu0, p0, q0, hg0, ht0, hv0, hd0, ⟨g1, t1, cs1, fu1, p1, q1, hg1, ht1, hv1, hd1, ⟨g2, t2, cs2, fu2, p2, q2, hg2, ht2, hv2, hd2, _, _⟩, _⟩, _⟩, _, _⟩ := h
  obtain rfl := Option.some.inj ((show Tryd.prog.globalNamed nmPow = some 4 by kernel_rfl).symm.trans hg2)
  obtain rfl := Option.some.inj ((show (Tryd.prog.globals[4]?).map (·.type) = some 93 by kernel_rfl).symm.trans ht2)
  have hc : cs2.toList = Lib.pow10Tab.map fun z => Value.int .u64 z := Lib.cells_of_tab (n := 20) (e := 37) Tryd.underlying93 Tryd.underlying37 (by kernel_rfl) (by kernel_rfl) hd2
  have : W.var? Tryd.prog nmPow = some cs2 := hv2
  unfold Lib.TabIs
  rw [this, ← hc]

theorem tabOk_of {W : World} (h : laidMetH Tryd.prog Rows.numSumsRow.laid W) : @TabOk ⟨bsC W, bsO W⟩ := by
  have t := tab_of h
  intro w hw
  unfold Lib.TabIs at t ⊢
  have hg : Tryd.prog.globalNamed nmPow = some 4 := by kernel_rfl
  have hc := World.var?_cell hg t 0
  have hh : W.heap[4]? = w.heap[4]? := by
    cases ho : W.heap[4]? with
    | none =>
      simp only [World.var?, hg, Option.bind_some, ho] at t
      cases t
    | some ob =>
      have h1 : (bsC W 4 0).isSome = true := by
        have : W.cell? ⟨4, 0, none⟩ = some (.int .u64 1) := hc
        have := @allM_cell ⟨fun _ _ => none, fun _ => none⟩ _ _ _ _ this rfl
        unfold bsC
        rw [this]; rfl
      have h2 : bsO W 4 = some ob := by
        unfold bsO
        rw [if_pos h1, ho]
      exact (hw 4 ob h2).symm
  rw [← t]
  simp only [World.var?, hg, Option.bind_some, hh]
end Go.Proofs.YtnodcoemjojlhaaDoor
