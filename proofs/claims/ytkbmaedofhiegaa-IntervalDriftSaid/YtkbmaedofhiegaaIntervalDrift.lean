/-
  THE SHELL OF A PROOF OF 'Rows.IntervalDriftSaid' ('tracebook/tracebooklaw03.IntervalDrift'), WRITTEN BY PROGRAM (proof-skeleton.mjs) off the guide's own print for that function. Not trusted: Lean checks it.
  YOURS ARE THE HOLES MARKED 'HOLE' (each bears 'sorry'). ALL ELSE IS THE GUIDE's TEMPLATE (howto/template/XProofs.lean) at this function's number and types: leave it.
-/
import Derived.Test.YtkbmaedofhiegaaAll
import Derived.Deep.RegionHeld
import Derived.WalkKit
import Derived.ProofKit
import Derived.OpenShut
import Derived.ShutString
namespace Go.Proofs.Ytkbmaedofhiegaa.intervalDrift
open Go.ChangeShapes Go.WideShapes Go.ChangeAt Go.RowKit
open Go.ChangeMaps (open_string shut_string)
set_option linter.unusedVariables false      -- a walk need not use every 'w<i>' (that an integer argument fits its kind)

theorem own : ownKnob Try.prog.godebug = none := by kernel_rfl

/-! ### STEP 1: THE WALK: the Go text returns true. 'Below w.heap.size w w'': the world has at most new blocks (Derived/RowKit3.lean). Part the cases AHEAD of 'go_enter' where a test parts the walk; take each callee by a contract of your own. -/
set_option maxRecDepth 100000 in
set_option maxHeartbeats 3200000 in
theorem walk (a0 : Int) (a1 : Int) (a2 : Int) (w0 : (Lit.int .i64 a0).wf = true) (w1 : (Lit.int .i64 a1).wf = true) (w2 : (Lit.int .i64 a2).wf = true) (w : World) :
    Calls Try.prog 7 #[.int .i64 a0, .int .i64 a1, .int .i64 a2] w fun e w' => e = .returned (.bool true) ∧ Below w.heap.size w w' := by
  have C1 := Lib.hid (fun W => stretch_any a0 a1 W)
  have C2 := Lib.hid (fun W => stretch_any (-a0) a1 W)
  have C3 := Lib.hid (fun W => stretch_any a0 0 W)
  have C4 := Lib.hid (fun W => stretch_any a0 a2 W)
  by_cases n1 : a0 < -1000000000000 ∨ 1000000000000 < a0 ∨ a1 < 0 ∨ 10000 < a1
  · rw [stretch_no n1] at C1
    clear n1
    go_enter Try.func7, Try.ntmps7
    go_wp2_with fail
    refine (C1.out _).mono ?_
    rintro e W0 ⟨rfl, hb0⟩
    go_wp2_with fail
    have hB := (hb0.alloc hb0.size (.cells #[.int .i64 0, .int .i64 0] 23))
    refine (awake_any _).mono ?_
    rintro e W2 ⟨rfl, hb2⟩
    go_wp2
    go_ret
    exact ⟨rfl, hB.trans (hb2.mono hB.size)⟩
  · obtain ⟨x, y, e1, l1⟩ := stretch_ok n1
    rw [e1] at C1
    rw [stretch_neg e1] at C2
    rw [stretch_zero (by omega)] at C3
    have b1 : -1000000000000 ≤ a0 := by omega
    have b2 : a0 ≤ 1000000000000 := by omega
    have key : -1010000000000 ≤ x ∧ x ≤ a0 ∧ a0 ≤ y ∧ y ≤ 1010000000000 := by
      obtain ⟨p1, m1⟩ := l1
      by_cases s : 0 ≤ a0
      · have := p1 s; omega
      · have := m1 (by omega); omega
    obtain ⟨k1, k2, k3, k4⟩ := key
    have v1 : vld x y = true := vld_mk (by omega) (by omega) (by omega)
    have I1 := Lib.hid (fun W => within_is (a := x) (b := y) (n := a0) (z := true) (by unfold withinF; rw [v1]; simp; omega) W)
    go_enter Try.func7, Try.ntmps7
    go_wp2_with fail
    refine (C1.out _).mono ?_
    rintro e W0 ⟨rfl, hb0⟩
    go_wp2_with fail
    refine (C2.out _).mono ?_
    rintro e W1 ⟨rfl, hb1⟩
    have L1 := (live_new W0 x y).keep hb1
    have hB := (hb0.alloc hb0.size _).trans (hb1.mono (hb0.alloc hb0.size _).size)
    go_wp2_with fail
    refine (C3.out _).mono ?_
    rintro e W2 ⟨rfl, hb2⟩
    replace L1 := (L1.alloc _).keep hb2
    have L2 := (live_new W1 (-y) (-x)).keep hb2
    have hB2 := (hB.alloc hB.size _).trans (hb2.mono (hB.alloc hB.size _).size)
    go_wp2_with fail
    have hA : All3 w W0.heap.size x y W1.heap.size (-y) (-x) W2.heap.size a0 a0 (W2.alloc (.cells #[.int .i64 a0, .int .i64 a0] 23)) := ⟨L1.alloc _, L2.alloc _, live_new _ _ _, hB2.alloc hB2.size _⟩
    clear L1 L2 hB2 hB hb0 hb1 hb2 C1 C2 C3 e1 n1 v1
    generalize W2.alloc (.cells #[.int .i64 a0, .int .i64 a0] 23) = W3 at hA ⊢
    generalize W0.heap.size = g1 at hA ⊢
    generalize W1.heap.size = g2 at hA ⊢
    generalize W2.heap.size = g3 at hA ⊢
    clear W0 W1 W2
    have hS := (hA.keep (Below.refl _ _).drew).held
    clear hA
    have hw1 : IntKind.i64.wrap (-y) = -y := IntWalk.i64_in _ (by omega)
    have hw2 : IntKind.i64.wrap (-x) = -x := IntWalk.i64_in _ (by omega)
    unfold Held3 at hS
    go_region_held (fun W => W.cell? ⟨g1, 0, none⟩ = some (.int .i64 x) ∧ W.cell? ⟨g1, 1, none⟩ = some (.int .i64 y) ∧ W.cell? ⟨g2, 0, none⟩ = some (.int .i64 (-y)) ∧ W.cell? ⟨g2, 1, none⟩ = some (.int .i64 (-x)) ∧ W.cell? ⟨g3, 0, none⟩ = some (.int .i64 a0) ∧ W.cell? ⟨g3, 1, none⟩ = some (.int .i64 a0) ∧ All3 w g1 x y g2 (-y) (-x) g3 a0 a0 W)
      (first | assumption | exact hS | exact hS2)
      (first
        | (go_at_call 24; refine (carry3 (w := w) (g1 := g1) (x1 := x) (y1 := y) (g2 := g2) (x2 := -y) (y2 := -x) (g3 := g3) (x3 := a0) (y3 := a0) (of_any _ _ _) ?_).mono ?_; (first | exact pick7 hS2 | exact pick7 hS); rintro e W ⟨rfl, hS2⟩; unfold Held3 at hS2)
        | (go_at_call 19; refine (carry3 (w := w) (g1 := g1) (x1 := x) (y1 := y) (g2 := g2) (x2 := -y) (y2 := -x) (g3 := g3) (x3 := a0) (y3 := a0) (I1.out _) ?_).mono ?_; (first | exact pick7 hS2 | exact pick7 hS); rintro e W ⟨rfl, hS2⟩; unfold Held3 at hS2))
    have hA := pick7 hS2
    clear hS2 hS hw1 hw2
    have L1 := hA.b1
    have hB3 := hA.bel
    clear hA
    by_cases n2 : a0 < -1000000000000 ∨ 1000000000000 < a0 ∨ a2 < 0 ∨ 10000 < a2
    · rw [stretch_no n2] at C4
      clear n2
      go_wp2_with fail
      refine (C4.out _).mono ?_
      rintro e W4 ⟨rfl, hb4⟩
      have hB4 := hB3.trans (hb4.mono hB3.size)
      have hB5 := hB4.alloc hB4.size (.cells #[.int .i64 0, .int .i64 0] 23)
      go_wp2_with fail
      refine (awake_any _).mono ?_
      rintro e W6 ⟨rfl, hb6⟩
      go_wp2
      go_ret
      exact ⟨rfl, hB5.trans (hb6.mono hB5.size)⟩
    · obtain ⟨x2, y2, e2, l2⟩ := stretch_ok n2
      rw [e2] at C4
      by_cases n3 : a1 < a2
      · have hd1 : decide (a1 < a2) = true := by simpa using n3
        clear n2
        go_wp2_with fail
        refine (C4.out _).mono ?_
        rintro e W4 ⟨rfl, hb4⟩
        have hB4 := hB3.trans (hb4.mono hB3.size)
        have hB5 := hB4.alloc hB4.size (.cells #[.int .i64 x2, .int .i64 y2] 23)
        go_wp2_with fail
        refine (awake_any _).mono ?_
        rintro e W6 ⟨rfl, hb6⟩
        go_wp2
        go_ret
        exact ⟨rfl, hB5.trans (hb6.mono hB5.size)⟩
      · have hd1 : decide (a1 < a2) = false := by simpa using n3
        have hq : (0 ≤ a0 → a0 * a2 ≤ a0 * a1) ∧ (a0 < 0 → a0 * a1 ≤ a0 * a2) := ⟨fun h => Int.mul_le_mul_of_nonneg_left (by omega) h, fun h => Int.mul_le_mul_of_nonpos_left (by omega) (by omega)⟩
        generalize a0 * a1 = q1 at l1 hq
        generalize a0 * a2 = q2 at l2 hq
        have key : x ≤ x2 ∧ x2 ≤ y2 ∧ y2 ≤ y := by
          obtain ⟨p1, m1⟩ := l1
          obtain ⟨p2, m2⟩ := l2
          by_cases s : 0 ≤ a0
          · have := p1 s; have := p2 s; have := hq.1 s; clear p1 p2 m1 m2 hq; omega
          · have := m1 (by omega); have := m2 (by omega); have := hq.2 (by omega); clear p1 p2 m1 m2 hq; omega
        obtain ⟨g1', g2', g3'⟩ := key
        have v1 : vld x y = true := vld_mk (by omega) (by omega) (by omega)
        have I2 := Lib.hid (fun W => within_is (a := x) (b := y) (n := x2) (z := true) (by unfold withinF; rw [v1]; simp; omega) W)
        have I3 := Lib.hid (fun W => within_is (a := x) (b := y) (n := y2) (z := true) (by unfold withinF; rw [v1]; simp; omega) W)
        clear n2 n3 l1 l2 hq
        go_wp2_with fail
        refine (C4.out _).mono ?_
        rintro e W4 ⟨rfl, hb4⟩
        have hB4 := hB3.trans (hb4.mono hB3.size)
        replace L1 := L1.keep hb4
        have t1 := L1.lt
        have t2 := L1.lo
        have t3 := L1.hi
        go_wp2_with fail
        refine (I2.out _).mono ?_
        rintro e W5 ⟨rfl, hb5⟩
        have L2 := (live_new W4 x2 y2).keep hb5
        replace L1 := (L1.alloc _).keep hb5
        have hB5 := (hB4.alloc hB4.size _).trans (hb5.mono (hB4.alloc hB4.size _).size)
        clear t1 t2 t3
        have t1 := L1.lt
        have t2 := L1.lo
        have t3 := L1.hi
        have t4 := L2.lt
        have t5 := L2.lo
        have t6 := L2.hi
        go_wp2_with fail
        refine (I3.out _).mono ?_
        rintro e W7 ⟨rfl, hb7⟩
        have hB7 := hB5.trans (hb7.mono hB5.size)
        go_wp2_with fail
        refine (awake_any _).mono ?_
        rintro e W6 ⟨rfl, hb6⟩
        go_wp2
        go_ret
        exact ⟨rfl, hB7.trans (hb6.mono hB7.size)⟩

/-! ### THE ROW's STEP: WRITTEN OUT: LEAVE IT -/
set_option maxRecDepth 100000 in
theorem lifted (os : Os) (started : os.Started) (H : Type) (enc : TypeId × Value → H) :
    ReturnsInHanded {} Try.checked os 7 .any (Rows.intervalDriftSpec.pre6 enc Try.prog Try.f7 Rows.intervalDriftRow.domain false) (Rows.intervalDriftSpec.post enc Try.prog Try.f7 false true false false) := by
  refine returnsInHanded_of_change (C := Try.checked) own started (by kernel_rfl) Try.func7
    (ChangeSpec.witness6 (enc := enc) (C := Try.checked) false ⟨#[], #[.int .i64 0, .int .i64 0, .int .i64 0], []⟩ 8 (by kernel_rfl) (by kernel_rfl) (by kernel_rfl) (by kernel_rfl)) ?_
  intro W base args ds gs before hval0 hW hcnd _
  have hval : ∀ (j : Nat) t v, Try.f7.params[j]? = some t → args[j]? = some v → Value.okWide Try.prog W .any base t v := hval0
  have hW' := hW
  obtain ⟨p, q, hA0, hV, rfl, hfz, hnd⟩ := hW
  have hA : DataW.TrodAll enc Try.prog W 0 (fun _ => true) true Try.f7.params.toList args.toList ds p := hA0
  rw [Try.params7] at hA hval
  obtain ⟨v0, vs0, d0, ds0, p0, q0, hargs, rfl, rfl, h0, r0⟩ := trodAll_cons hA
  obtain ⟨v1, vs1, d1, ds1, p1, q1, rfl, rfl, rfl, h1, r1⟩ := trodAll_cons r0
  obtain ⟨v2, vs2, d2, ds2, p2, q2, rfl, rfl, rfl, h2, r2⟩ := trodAll_cons r1
  obtain ⟨rfl, rfl, rfl⟩ := trodAll_nil r2
  obtain rfl : args = #[v0, v1, v2] := by cases args; simp_all
  obtain ⟨rfl, rfl⟩ := trodVars_none hV
  obtain ⟨a0, rfl, rfl, rfl, w0⟩ := open_int Try.underlying3 (hval 0 3 v0 rfl rfl) h0
  obtain ⟨a1, rfl, rfl, rfl, w1⟩ := open_int Try.underlying3 (hval 1 3 v1 rfl rfl) h1
  obtain ⟨a2, rfl, rfl, rfl, w2⟩ := open_int Try.underlying3 (hval 2 3 v2 rfl rfl) h2
  clear hA0 hval0
  refine (walk a0 a1 a2 w0 w1 w2 W).mono fun e W' ⟨he, bel⟩ => ?_
  subst he
  exact ⟨_, rfl, _, _, _, [], _, [], hW', trodAll_mk1 (shut_bool Try.underlying4 _), (trodAll_cons_mk (shut_int Try.underlying3 w0) (trodAll_cons_mk (shut_int Try.underlying3 w1) (trodAll_cons_mk (shut_int Try.underlying3 w2) trodAll_mk0))), rfl, bel.frame _, fun h => by cases h⟩

theorem over : Rows.intervalDriftRow.holds Try.pinned (OpenSpec.ofChange Rows.intervalDriftSpec) :=
  OpenClaim.holds_of_wide 7 Try.f7 rfl rfl rfl rfl rfl rfl rfl ⟨rfl, rfl, rfl, rfl, rfl⟩ rfl rfl rfl rfl rfl (by kernel_rfl) Try.func7 (by kernel_rfl)
    (of_decide_eq_true (by kernel_rfl)) (by unfold Func.isWrapper; first | (rw [if_pos (by decide +kernel)]; kernel_rfl) | (rw [if_neg (by decide +kernel)]; exact ⟨rfl, rfl⟩))
    (fun os started H enc _ => lifted os started H enc)

/-- ████ THE STATEMENT ████ -/
theorem proved : Rows.IntervalDriftSaid :=
  over
#print axioms proved
end Go.Proofs.Ytkbmaedofhiegaa.intervalDrift
