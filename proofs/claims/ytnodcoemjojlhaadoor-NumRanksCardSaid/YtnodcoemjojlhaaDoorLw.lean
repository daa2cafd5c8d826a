/- num: what the rows lay: the table that strconv reads, and its two errors, out of the condition; the door's own heap meets it. -/
import Derived.Test.YtnodcoemjojlhaaDoorEvP
import Derived.Test.YtnodcoemjojlhaaDoorRows
import Derived.LaidMore
import Derived.OpenShut
import Derived.ProofKit
import Derived.Stop.Joined
namespace Go.Proofs.YtnodcoemjojlhaaDoor
open Go Go.RowKit Go.ChangeShapes Go.WideShapes Go.ChangeAt
set_option linter.unusedVariables false

theorem door_met (os : Os) (args : Array Value) : laidMetH Tryd.prog Rows.numSumsRow.laid ((World.doorLaid Tryd.prog 400 os).forCall (fun _ _ => 0) ⟨#[], args, []⟩).memory :=
  laidMetH_of_parts3 (fuel := 8) (laidMet_of_run' 8 (by kernel_rfl) (by kernel_rfl)) (by kernel_rfl) (by kernel_rfl)

theorem iface_cells {H : Type} {enc : TypeId × Value → H} {P : Program} {w : World} {base : Nat} {sp : Nat → Bool} {held : Bool} {fuel : Nat} {t : TypeId} {ms : Array (String × TypeId)} {cs : List Value} {d : DataW H × List MemPlace}
    (hu : P.underlying t = some (.interface ms)) (h : DataW.trod enc P w base sp held fuel t cs = some d) : ∃ ev, cs = [ev] ∧ ev.oneCell' = true ∧ (ev = .nilIface ∨ ∃ te pe, ev = .iface te pe) := by
  cases fuel with
  | zero => simp [DataW.trod] at h
  | succ f =>
    rcases cs with _ | ⟨c, _ | ⟨c2, r⟩⟩
    · simp [DataW.trod, hu] at h
    · cases c <;> first
        | exact ⟨_, rfl, rfl, .inl rfl⟩
        | exact ⟨_, rfl, rfl, .inr ⟨_, _, rfl⟩⟩
        | (simp [DataW.trod, hu] at h; done)
    · simp [DataW.trod, hu] at h

structure Laid (W : World) : Prop where
  tab : Lib.TabIs Tryd.prog W nmPow .u64 Lib.pow10Tab
  e2 : ∃ ev, W.cell? ⟨2, 0, none⟩ = some ev ∧ ev.oneCell' = true ∧ (ev = .nilIface ∨ ∃ te pe, ev = .iface te pe)
  e3 : ∃ ev, W.cell? ⟨3, 0, none⟩ = some ev ∧ ev.oneCell' = true ∧ (ev = .nilIface ∨ ∃ te pe, ev = .iface te pe)
theorem err_cell {W : World} {name : String} {g : Nat} {cs : Array Value} (hg : Tryd.prog.globalNamed name = some g) (hv : W.var? Tryd.prog name = some cs)
    (h : ∃ ev, cs.toList = [ev] ∧ ev.oneCell' = true ∧ (ev = .nilIface ∨ ∃ te pe, ev = .iface te pe)) : ∃ ev, W.cell? ⟨g, 0, none⟩ = some ev ∧ ev.oneCell' = true ∧ (ev = .nilIface ∨ ∃ te pe, ev = .iface te pe) := by
  obtain ⟨ev, h1, h2, h3⟩ := h
  refine ⟨ev, ?_, h2, h3⟩
  rw [World.var?_cell hg hv 0]
  have : cs.toList[0]? = some ev := by rw [h1]; rfl
  simpa using this
theorem laid_of {W : World} (h : laidMetH Tryd.prog Rows.numSumsRow.laid W) : Laid W := by
  rw [MakeChecks.laidMetH_plain _ _ _ (by kernel_rfl)] at h
  obtain ⟨ps, ⟨g0, t0, cs0, fu0, p0, q0, hg0, ht0, hv0, hd0, ⟨g1, t1, cs1, fu1, p1, q1, hg1, ht1, hv1, hd1, ⟨g2, t2, cs2, fu2, p2, q2, hg2, ht2, hv2, hd2, ⟨g3, t3, cs3, fu3, p3, q3, hg3, ht3, hv3, hd3, ⟨g4, t4, cs4, fu4, p4, q4, hg4, ht4, hv4, hd4, _, _⟩, _⟩, _⟩, _⟩, _⟩, _, _⟩ := h
  obtain rfl := Option.some.inj ((show Tryd.prog.globalNamed nmPow = some 4 by kernel_rfl).symm.trans hg2)
  obtain rfl := Option.some.inj ((show (Tryd.prog.globals[4]?).map (·.type) = some 93 by kernel_rfl).symm.trans ht2)
  have hc : cs2.toList = Lib.pow10Tab.map fun z => Value.int .u64 z := Lib.cells_of_tab (n := 20) (e := 37) Tryd.underlying93 Tryd.underlying37 (by kernel_rfl) (by kernel_rfl) hd2
  have ht : Lib.TabIs Tryd.prog W nmPow .u64 Lib.pow10Tab := by
    have : W.var? Tryd.prog nmPow = some cs2 := hv2
    unfold Lib.TabIs
    rw [this, ← hc]
  have k3 : g3 = 3 := Option.some.inj (hg3.symm.trans (show Tryd.prog.globalNamed _ = some 3 by kernel_rfl))
  have k4 : g4 = 2 := Option.some.inj (hg4.symm.trans (show Tryd.prog.globalNamed _ = some 2 by kernel_rfl))
  subst k3 k4
  obtain rfl := Option.some.inj ((show (Tryd.prog.globals[3]?).map (·.type) = some 46 by kernel_rfl).symm.trans ht3)
  obtain rfl := Option.some.inj ((show (Tryd.prog.globals[2]?).map (·.type) = some 46 by kernel_rfl).symm.trans ht4)
  exact ⟨ht, err_cell hg4 hv4 (iface_cells Tryd.underlying46 hd4), err_cell hg3 hv3 (iface_cells Tryd.underlying46 hd3)⟩

theorem same_heap {W w : World} {g : Nat} {v : Value} (hc : W.cell? ⟨g, 0, none⟩ = some v) (h1 : v.oneCell' = true) (hw : ∀ g ob, bsO W g = some ob → w.heap[g]? = some ob) : W.heap[g]? = w.heap[g]? := by
  cases ho : W.heap[g]? with
  | none => simp [World.cell?, ho] at hc
  | some ob =>
    have h2 : (bsC W g 0).isSome = true := by
      have := @allM_cell ⟨fun _ _ => none, fun _ => none⟩ _ _ _ _ hc h1
      unfold bsC
      rw [this]; rfl
    have h3 : bsO W g = some ob := by
      unfold bsO
      rw [if_pos h2, ho]
    exact (hw g ob h3).symm
theorem tabOk_of {W : World} (h : laidMetH Tryd.prog Rows.numSumsRow.laid W) : @TabOk ⟨bsC W, bsO W⟩ := by
  obtain ⟨t, ⟨ev2, c2, o2, k2⟩, ⟨ev3, c3, o3, k3⟩⟩ := laid_of h
  intro w hw
  have hg : Tryd.prog.globalNamed nmPow = some 4 := by kernel_rfl
  refine ⟨?_, ⟨ev2, ?_, k2⟩, ⟨ev3, ?_, k3⟩⟩
  · unfold Lib.TabIs at t ⊢
    have hc : W.cell? ⟨4, 0, none⟩ = some (.int .u64 1) := World.var?_cell hg t 0
    have hh := same_heap hc rfl hw
    rw [← t]
    simp only [World.var?, hg, Option.bind_some, hh]
  · have hh := same_heap c2 o2 hw
    rw [← c2]
    simp [World.cell?, hh]
  · have hh := same_heap c3 o3 hw
    rw [← c3]
    simp [World.cell?, hh]
end Go.Proofs.YtnodcoemjojlhaaDoor
