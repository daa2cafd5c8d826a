/- frac: what the rows lay: the table that strconv reads, out of the condition; the door's own heap meets it. -/
import Derived.Test.YtddglikicokpeaaDoorEvP
import Derived.Test.YtddglikicokpeaaDoorRows
import Derived.LaidMore
import Derived.OpenShut
import Derived.ProofKit
import Derived.Stop.Joined
namespace Go.Proofs.YtddglikicokpeaaDoor
open Go Go.RowKit Go.ChangeShapes Go.WideShapes Go.ChangeAt
set_option linter.unusedVariables false

theorem door_met (os : Os) (args : Array Value) : laidMetH Tryd.prog Rows.fracMakesRow.laid ((World.doorLaid Tryd.prog 400 os).forCall (fun _ _ => 0) ⟨#[], args, []⟩).memory :=
  laidMetH_of_parts3 (fuel := 8) (laidMet_of_run' 8 (by kernel_rfl) (by kernel_rfl)) (by kernel_rfl) (by kernel_rfl)

theorem laid_of {W : World} (h : laidMetH Tryd.prog Rows.fracMakesRow.laid W) : Lib.TabIs Tryd.prog W nmPow .u64 Lib.pow10Tab := by
  rw [MakeChecks.laidMetH_plain _ _ _ (by kernel_rfl)] at h
  obtain ⟨ps, ⟨g0, t0, cs0, fu0, p0, q0, hg0, ht0, hv0, hd0, ⟨g1, t1, cs1, fu1, p1, q1, hg1, ht1, hv1, hd1, ⟨g2, t2, cs2, fu2, p2, q2, hg2, ht2, hv2, hd2, _, _⟩, _⟩, _⟩, _, _⟩ := h
  obtain rfl := Option.some.inj ((show Tryd.prog.globalNamed nmPow = some 2 by kernel_rfl).symm.trans hg2)
  obtain rfl := Option.some.inj ((show (Tryd.prog.globals[2]?).map (·.type) = some 88 by kernel_rfl).symm.trans ht2)
  have hc : cs2.toList = Lib.pow10Tab.map fun z => Value.int .u64 z := Lib.cells_of_tab (n := 20) (e := 41) Tryd.underlying88 Tryd.underlying41 (by kernel_rfl) (by kernel_rfl) hd2
  have : W.var? Tryd.prog nmPow = some cs2 := hv2
  unfold Lib.TabIs
  rw [this, ← hc]

theorem same_heap {W w : World} {g : Nat} {v : Value} (hc : W.cell? ⟨g, 0, none⟩ = some v) (h1 : v.oneCell' = true) (hw : ∀ g ob, bsO W g = some ob → w.heap[g]? = some ob) : W.heap[g]? = w.heap[g]? := by
  cases ho : W.heap[g]? with
  | none => simp [World.cell?, ho] at hc
  | some ob =>
    have h2 : (bsC W g 0).isSome = true := by
      have := @allM_cell ⟨fun _ _ => none, fun _ => none⟩ _ _ _ _ hc h1
      unfold bsC
      rw [this]; rfl
    have h3 : bsO W g = some ob := by
      unfold bsO
      rw [if_pos h2, ho]
    exact (hw g ob h3).symm
theorem tabOk_of {W : World} (h : laidMetH Tryd.prog Rows.fracMakesRow.laid W) : @TabOk ⟨bsC W, bsO W⟩ := by
  have t := laid_of h
  intro w hw
  have hg : Tryd.prog.globalNamed nmPow = some 2 := by kernel_rfl
  unfold Lib.TabIs at t ⊢
  have hc : W.cell? ⟨2, 0, none⟩ = some (.int .u64 1) := World.var?_cell hg t 0
  have hh := same_heap hc rfl hw
  rw [← t]
  simp only [World.var?, hg, Option.bind_some, hh]
end Go.Proofs.YtddglikicokpeaaDoor
