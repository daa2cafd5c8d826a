/- what the rows lay: the table that strconv reads, and its two errors, and the shapes of events, out of the condition; the door's own heap meets it. -/
import Derived.Test.YtidkdiooempkpaaDoorShp
import Derived.Test.YtidkdiooempkpaaDoorRows
import Derived.LaidMore
import Derived.OpenShut
import Derived.ProofKit
import Derived.Stop.Joined
import Derived.Lay
import Derived.LaidOnce
namespace Go.Proofs.YtidkdiooempkpaaDoor
open Go Go.RowKit Go.ChangeShapes Go.WideShapes Go.ChangeAt
set_option linter.unusedVariables false

/-- some memory that knows the variables -/
@[reducible] def bsG : Bs := ⟨fun g j => (gtab g).bind (·[j]?), fun _ => none, fun g vs j v h h' => by simp [h, h']⟩
noncomputable def doorW (os : Os) : World := World.laidAll Tryd.prog os Rows.eventChecksRow.laid
theorem doorW_os (os : Os) : (doorW os).os = os := World.laidAll_os _ _ _
set_option maxRecDepth 100000 in
theorem doorW_shaped (os : Os) : (doorW os).Shaped Tryd.prog := World.shaped_of_ZipB (by kernel_rfl) (by kernel_rfl)
set_option maxRecDepth 100000 in
theorem door_met (os : Os) (args : Array Value) : laidMetH Tryd.prog Rows.eventChecksRow.laid ((doorW os).forCall (fun _ _ => 0) ⟨#[], args, []⟩).memory := by
  rw [MakeChecks.laidMetH_plain _ _ _ (by kernel_rfl)]
  exact laidMet_laidAll _ (by kernel_rfl) (by kernel_rfl)

theorem iface_cells {H : Type} {enc : TypeId × Value → H} {P : Program} {w : World} {base : Nat} {sp : Nat → Bool} {held : Bool} {fuel : Nat} {t : TypeId} {ms : Array (String × TypeId)} {cs : List Value} {d : DataW H × List MemPlace}
    (hu : P.underlying t = some (.interface ms)) (h : DataW.trod enc P w base sp held fuel t cs = some d) : ∃ ev, cs = [ev] ∧ ev.oneCell' = true ∧ (ev = .nilIface ∨ ∃ te pe, ev = .iface te pe) := by
  cases fuel with
  | zero => simp [DataW.trod] at h
  | succ f =>
    rcases cs with _ | ⟨c, _ | ⟨c2, r⟩⟩
    · simp [DataW.trod, hu] at h
    · cases c <;> first
        | exact ⟨_, rfl, rfl, .inl rfl⟩
        | exact ⟨_, rfl, rfl, .inr ⟨_, _, rfl⟩⟩
        | (simp [DataW.trod, hu] at h; done)
    · simp [DataW.trod, hu] at h

structure Laid (W : World) : Prop where
  tab : Lib.TabIs Tryd.prog W nmPow .u64 Lib.pow10Tab
  e2 : ∃ ev, W.cell? ⟨3, 0, none⟩ = some ev ∧ ev.oneCell' = true ∧ (ev = .nilIface ∨ ∃ te pe, ev = .iface te pe)
  e3 : ∃ ev, W.cell? ⟨4, 0, none⟩ = some ev ∧ ev.oneCell' = true ∧ (ev = .nilIface ∨ ∃ te pe, ev = .iface te pe)
theorem err_cell {W : World} {name : String} {g : Nat} {cs : Array Value} (hg : Tryd.prog.globalNamed name = some g) (hv : W.var? Tryd.prog name = some cs)
    (h : ∃ ev, cs.toList = [ev] ∧ ev.oneCell' = true ∧ (ev = .nilIface ∨ ∃ te pe, ev = .iface te pe)) : ∃ ev, W.cell? ⟨g, 0, none⟩ = some ev ∧ ev.oneCell' = true ∧ (ev = .nilIface ∨ ∃ te pe, ev = .iface te pe) := by
  obtain ⟨ev, h1, h2, h3⟩ := h
  refine ⟨ev, ?_, h2, h3⟩
  rw [World.var?_cell hg hv 0]
  have : cs.toList[0]? = some ev := by rw [h1]; rfl
  simpa using this
theorem laid_of {W : World} (h : laidMetH Tryd.prog Rows.eventChecksRow.laid W) : Laid W := by
  rw [MakeChecks.laidMetH_plain _ _ _ (by kernel_rfl)] at h
  obtain ⟨ps, ⟨g0, t0, cs0, fu0, p0, q0, hg0, ht0, hv0, hd0, ⟨g1, t1, cs1, fu1, p1, q1, hg1, ht1, hv1, hd1, ⟨g2, t2, cs2, fu2, p2, q2, hg2, ht2, hv2, hd2, ⟨g3, t3, cs3, fu3, p3, q3, hg3, ht3, hv3, hd3, ⟨g4, t4, cs4, fu4, p4, q4, hg4, ht4, hv4, hd4, ⟨g5, t5, cs5, fu5, p5, q5, hg5, ht5, hv5, hd5, ⟨g6, t6, cs6, fu6, p6, q6, hg6, ht6, hv6, hd6, ⟨g7, t7, cs7, fu7, p7, q7, hg7, ht7, hv7, hd7, _, _⟩, _⟩, _⟩, _⟩, _⟩, _⟩, _⟩, _⟩, _, _⟩ := h
  obtain rfl := Option.some.inj ((show Tryd.prog.globalNamed nmPow = some 2 by kernel_rfl).symm.trans hg2)
  obtain rfl := Option.some.inj ((show (Tryd.prog.globals[2]?).map (·.type) = some 104 by kernel_rfl).symm.trans ht2)
  have hc : cs2.toList = Lib.pow10Tab.map fun z => Value.int .u64 z := Lib.cells_of_tab (n := 20) (e := 90) Tryd.underlying104 Tryd.underlying90 (by kernel_rfl) (by kernel_rfl) hd2
  have ht : Lib.TabIs Tryd.prog W nmPow .u64 Lib.pow10Tab := by
    have : W.var? Tryd.prog nmPow = some cs2 := hv2
    unfold Lib.TabIs
    rw [this, ← hc]
  have k3 : g4 = 4 := Option.some.inj (hg4.symm.trans (show Tryd.prog.globalNamed _ = some 4 by kernel_rfl))
  have k4 : g5 = 3 := Option.some.inj (hg5.symm.trans (show Tryd.prog.globalNamed _ = some 3 by kernel_rfl))
  subst k3 k4
  obtain rfl := Option.some.inj ((show (Tryd.prog.globals[4]?).map (·.type) = some 68 by kernel_rfl).symm.trans ht4)
  obtain rfl := Option.some.inj ((show (Tryd.prog.globals[3]?).map (·.type) = some 68 by kernel_rfl).symm.trans ht5)
  exact ⟨ht, err_cell hg5 hv5 (iface_cells Tryd.underlying68 hd5), err_cell hg4 hv4 (iface_cells Tryd.underlying68 hd4)⟩
/-- the shapes of events -/
def shL : List (List Lit) := [[.string [], .bool false, .bool false, .bool false, .bool false, .int .i64 0, .int .i64 0],
  [.string [98, 101, 103, 105, 110], .bool true, .bool false, .bool false, .bool false, .int .i64 0, .int .i64 0],
  [.string [101, 110, 100], .bool false, .bool false, .bool false, .bool false, .int .i64 0, .int .i64 0],
  [.string [109, 97, 114, 107], .bool true, .bool false, .bool false, .bool false, .int .i64 0, .int .i64 0],
  [.string [99, 111, 117, 110, 116], .bool true, .bool true, .bool false, .bool false, .int .i64 (-1000000000000000), .int .i64 1000000000000000],
  [.string [115, 97, 109, 112, 108, 101], .bool false, .bool true, .bool false, .bool true, .int .i64 1, .int .i64 1000000000000],
  [.string [115, 101, 110, 100], .bool false, .bool true, .bool false, .bool false, .int .i64 0, .int .i64 1000000000000000],
  [.string [114, 101, 99, 118], .bool false, .bool true, .bool false, .bool false, .int .i64 0, .int .i64 1000000000000000],
  [.string [114, 117, 110], .bool false, .bool true, .bool false, .bool false, .int .i64 0, .int .i64 63],
  [.string [115, 116, 111, 112], .bool false, .bool true, .bool true, .bool false, .int .i64 0, .int .i64 3],
  [.string [119, 97, 107, 101], .bool false, .bool true, .bool false, .bool false, .int .i64 0, .int .i64 1000000000000000],
  [.string [97, 108, 108, 111, 99], .bool false, .bool true, .bool true, .bool true, .int .i64 0, .int .i64 1000000000000000],
  [.string [102, 114, 101, 101], .bool false, .bool true, .bool false, .bool false, .int .i64 0, .int .i64 1000000000000000]]
def shV : List Value := (shL.map fun ls => ls.map Lit.value).flatten
theorem fields40 : ∃ fs, Tryd.prog.underlying 40 = some (.struct fs) ∧ fs.toList.length = 7 ∧ ∀ (i : Nat) (f : Field), fs.toList[i]? = some f → f.offset = i ∧ Tryd.prog.cellsOf f.type = 1 ∧ Scalar Tryd.prog f.type := by
  refine ⟨_, Tryd.underlying40, rfl, ?_⟩
  intro i f h
  match i, h with
  | 0, h => cases h; exact ⟨rfl, by kernel_rfl, .inr (.inr Tryd.underlying9)⟩
  | 1, h => cases h; exact ⟨rfl, by kernel_rfl, .inl Tryd.underlying4⟩
  | 2, h => cases h; exact ⟨rfl, by kernel_rfl, .inl Tryd.underlying4⟩
  | 3, h => cases h; exact ⟨rfl, by kernel_rfl, .inl Tryd.underlying4⟩
  | 4, h => cases h; exact ⟨rfl, by kernel_rfl, .inl Tryd.underlying4⟩
  | 5, h => cases h; exact ⟨rfl, by kernel_rfl, .inr (.inl ⟨_, Tryd.underlying3⟩)⟩
  | 6, h => cases h; exact ⟨rfl, by kernel_rfl, .inr (.inl ⟨_, Tryd.underlying3⟩)⟩
  | i + 7, h => simp at h
set_option maxRecDepth 100000 in
theorem shapes_of {W : World} (h : laidMetH Tryd.prog Rows.eventChecksRow.laid W) : ∀ (j : Nat) (v : Value), shV[j]? = some v → W.cell? ⟨0, j, none⟩ = some v := by
  rw [MakeChecks.laidMetH_plain _ _ _ (by kernel_rfl)] at h
  obtain ⟨ps, ⟨g0, t0, cs0, fu0, p0, q0, hg0, ht0, hv0, hd0, ⟨g1, t1, cs1, fu1, p1, q1, hg1, ht1, hv1, hd1, ⟨g2, t2, cs2, fu2, p2, q2, hg2, ht2, hv2, hd2, ⟨g3, t3, cs3, fu3, p3, q3, hg3, ht3, hv3, hd3, ⟨g4, t4, cs4, fu4, p4, q4, hg4, ht4, hv4, hd4, ⟨g5, t5, cs5, fu5, p5, q5, hg5, ht5, hv5, hd5, ⟨g6, t6, cs6, fu6, p6, q6, hg6, ht6, hv6, hd6, ⟨g7, t7, cs7, fu7, p7, q7, hg7, ht7, hv7, hd7, _, _⟩, _⟩, _⟩, _⟩, _⟩, _⟩, _⟩, _⟩, _, _⟩ := h
  have k6 : g6 = 0 := Option.some.inj (hg6.symm.trans (show Tryd.prog.globalNamed _ = some 0 by kernel_rfl))
  subst k6
  obtain rfl := Option.some.inj ((show (Tryd.prog.globals[0]?).map (·.type) = some 59 by kernel_rfl).symm.trans ht6)
  obtain ⟨fs, hfs, hfl, hof⟩ := fields40
  have hc : cs6.toList = shV := tab_cells (L := shL) Tryd.underlying59 hfs (by rw [hfl]; kernel_rfl) (by rw [hfl]; kernel_rfl) hof hd6
  intro j v hv
  rw [World.var?_cell hg6 hv6 j, ← hv, ← hc]
  simp
theorem shV_one : shV.all (fun v => v.oneCell') = true := by kernel_rfl
theorem hgl {W : World} (h : laidMetH Tryd.prog Rows.eventChecksRow.laid W) : ∀ g vs j v, gtab g = some vs → vs[j]? = some v → bsC W g j = some v := by
  intro g vs j v hg hv
  unfold gtab at hg
  split at hg
  · rename_i hb
    obtain rfl := Nat.eq_of_beq_eq_true hb
    have hs : vs = shV := by
      have e : shV = _ := (by kernel_rfl : shV = (gtab 0).getD [])
      rw [e]
      cases hg
      rfl
    subst hs
    have hc := shapes_of h j v hv
    have h1 : v.oneCell' = true := List.all_eq_true.1 shV_one v (List.mem_of_getElem? hv)
    unfold bsC
    exact @allM_cell bsG _ _ _ _ hc h1
  · cases hg
theorem same_heap {W w : World} {g : Nat} {v : Value} (hc : W.cell? ⟨g, 0, none⟩ = some v) (h1 : v.oneCell' = true) (hw : ∀ g ob, bsO W g = some ob → w.heap[g]? = some ob) : W.heap[g]? = w.heap[g]? := by
  cases ho : W.heap[g]? with
  | none => simp [World.cell?, ho] at hc
  | some ob =>
    have h2 : (bsC W g 0).isSome = true := by
      have := @allM_cell bsG _ _ _ _ hc h1
      unfold bsC
      rw [this]; rfl
    have h3 : bsO W g = some ob := by
      unfold bsO
      rw [if_pos h2, ho]
    exact (hw g ob h3).symm
theorem tabOk_of {W : World} (h : laidMetH Tryd.prog Rows.eventChecksRow.laid W) : @TabOk ⟨bsC W, bsO W, hgl h⟩ := by
  obtain ⟨t, ⟨ev2, c2, o2, k2⟩, ⟨ev3, c3, o3, k3⟩⟩ := laid_of h
  intro w hw
  have hg : Tryd.prog.globalNamed nmPow = some 2 := by kernel_rfl
  refine ⟨?_, ⟨ev2, ?_, k2⟩, ⟨ev3, ?_, k3⟩⟩
  · unfold Lib.TabIs at t ⊢
    have hc : W.cell? ⟨2, 0, none⟩ = some (.int .u64 1) := World.var?_cell hg t 0
    have hh := same_heap hc rfl hw
    rw [← t]
    simp only [World.var?, hg, Option.bind_some, hh]
  · have hh := same_heap c2 o2 hw
    rw [← c2]
    simp [World.cell?, hh]
  · have hh := same_heap c3 o3 hw
    rw [← c3]
    simp [World.cell?, hh]
end Go.Proofs.YtidkdiooempkpaaDoor
