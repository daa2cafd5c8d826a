/-
  THE SHELL OF A PROOF OF 'Rows.IntervalPartsSaid' ('tracebook/tracebooklaw03.IntervalParts'), WRITTEN BY PROGRAM (proof-skeleton.mjs) off the guide's own print for that function. Not trusted: Lean checks it.
  YOURS ARE THE HOLES MARKED 'HOLE' (each bears 'sorry'). ALL ELSE IS THE GUIDE's TEMPLATE (howto/template/XProofs.lean) at this function's number and types: leave it.
-/
import Derived.Test.YtkbmaedofhiegaaLive
import Derived.WalkKit
import Derived.ProofKit
import Derived.OpenShut
import Derived.ShutString
namespace Go.Proofs.Ytkbmaedofhiegaa.intervalParts
open Go.ChangeShapes Go.WideShapes Go.ChangeAt Go.RowKit
open Go.ChangeMaps (open_string shut_string)
set_option linter.unusedVariables false      -- a walk need not use every 'w<i>' (that an integer argument fits its kind)

theorem own : ownKnob Try.prog.godebug = none := by kernel_rfl

/-! ### STEP 1: THE WALK: the Go text returns true. 'Below w.heap.size w w'': the world has at most new blocks (Derived/RowKit3.lean). Part the cases AHEAD of 'go_enter' where a test parts the walk; take each callee by a contract of your own. -/
set_option maxRecDepth 100000 in
set_option maxHeartbeats 3200000 in
theorem walk (a0 : Int) (a1 : Int) (a2 : Int) (w0 : (Lit.int .i64 a0).wf = true) (w1 : (Lit.int .i64 a1).wf = true) (w2 : (Lit.int .i64 a2).wf = true) (w : World) :
    Calls Try.prog 8 #[.int .i64 a0, .int .i64 a1, .int .i64 a2] w fun e w' => e = .returned (.bool true) ∧ Below w.heap.size w w' := by
  have C1 := Lib.hid (fun W => stretch_any a0 a2 W)
  have C2 := Lib.hid (fun W => stretch_any a1 a2 W)
  have C3 := Lib.hid (fun W => stretch_any (a0 + a1) a2 W)
  by_cases n1 : a0 < -1000000000000 ∨ 1000000000000 < a0 ∨ a2 < 0 ∨ 10000 < a2
  · rw [stretch_no n1] at C1
    generalize stretchF a1 a2 = r at C2
    obtain ⟨x, y, z⟩ := r
    clear n1
    go_enter Try.func8, Try.ntmps8
    go_wp2_with fail
    refine (C1.out _).mono ?_
    rintro e W0 ⟨rfl, hb0⟩
    go_wp2_with fail
    refine (C2.out _).mono ?_
    rintro e W1 ⟨rfl, hb1⟩
    have hB := (hb0.alloc hb0.size _).trans (hb1.mono (hb0.alloc hb0.size _).size)
    go_wp2_with fail
    refine (awake_any _).mono ?_
    rintro e W2 ⟨rfl, hb2⟩
    go_wp2
    go_ret
    have hB1 := (hB.alloc hB.size (.cells #[.int .i64 x, .int .i64 y] 23))
    exact ⟨rfl, hB1.trans (hb2.mono hB1.size)⟩
  · obtain ⟨x1, y1, e1, l1⟩ := stretch_ok n1
    rw [e1] at C1
    by_cases n2 : a1 < -1000000000000 ∨ 1000000000000 < a1 ∨ a2 < 0 ∨ 10000 < a2
    · rw [stretch_no n2] at C2
      clear n1 n2 e1 l1
      go_enter Try.func8, Try.ntmps8
      go_wp2_with fail
      refine (C1.out _).mono ?_
      rintro e W0 ⟨rfl, hb0⟩
      go_wp2_with fail
      refine (C2.out _).mono ?_
      rintro e W1 ⟨rfl, hb1⟩
      have hB := (hb0.alloc hb0.size _).trans (hb1.mono (hb0.alloc hb0.size _).size)
      go_wp2_with fail
      refine (awake_any _).mono ?_
      rintro e W2 ⟨rfl, hb2⟩
      go_wp2
      go_ret
      have hB1 := (hB.alloc hB.size (.cells #[.int .i64 0, .int .i64 0] 23))
      exact ⟨rfl, hB1.trans (hb2.mono hB1.size)⟩
    · obtain ⟨x2, y2, e2, l2⟩ := stretch_ok n2
      rw [e2] at C2
      have b1 : -1000000000000 ≤ a0 := by omega
      have b2 : a0 ≤ 1000000000000 := by omega
      have b3 : -1000000000000 ≤ a1 := by omega
      have b4 : a1 ≤ 1000000000000 := by omega
      by_cases n3 : a0 + a1 < -1000000000000 ∨ 1000000000000 < a0 + a1 ∨ a2 < 0 ∨ 10000 < a2
      · rw [stretch_no n3] at C3
        have n4 : a0 + a1 < -1000000000000 ∨ 1000000000000 < a0 + a1 := by omega
        clear n1 n2 n3 e1 e2 l1 l2
        by_cases n5 : 1000000000000 < a0 + a1
        · have hd1 : decide (1000000000000 < a0 + a1) = true := by simpa using n5
          clear n4
          go_enter Try.func8, Try.ntmps8
          go_wp2_with fail
          refine (C1.out _).mono ?_
          rintro e W0 ⟨rfl, hb0⟩
          go_wp2_with fail
          refine (C2.out _).mono ?_
          rintro e W1 ⟨rfl, hb1⟩
          have hB := (hb0.alloc hb0.size _).trans (hb1.mono (hb0.alloc hb0.size _).size)
          go_wp2_with fail
          refine (C3.out _).mono ?_
          rintro e W2 ⟨rfl, hb2⟩
          have hB2 := (hB.alloc hB.size _).trans (hb2.mono (hB.alloc hB.size _).size)
          go_wp2_with fail
          refine (awake_any _).mono ?_
          rintro e W3 ⟨rfl, hb3⟩
          go_wp2
          go_ret
          have hB3 := (hB2.alloc hB2.size (.cells #[.int .i64 0, .int .i64 0] 23))
          exact ⟨rfl, hB3.trans (hb3.mono hB3.size)⟩
        · have n6 : a0 + a1 < -1000000000000 := by omega
          have hd1 : decide (1000000000000 < a0 + a1) = false := by simpa using n5
          have hd2 : decide (a0 + a1 < -1000000000000) = true := by simpa using n6
          clear n4
          go_enter Try.func8, Try.ntmps8
          go_wp2_with fail
          refine (C1.out _).mono ?_
          rintro e W0 ⟨rfl, hb0⟩
          go_wp2_with fail
          refine (C2.out _).mono ?_
          rintro e W1 ⟨rfl, hb1⟩
          have hB := (hb0.alloc hb0.size _).trans (hb1.mono (hb0.alloc hb0.size _).size)
          go_wp2_with fail
          refine (C3.out _).mono ?_
          rintro e W2 ⟨rfl, hb2⟩
          have hB2 := (hB.alloc hB.size _).trans (hb2.mono (hB.alloc hB.size _).size)
          go_wp2_with fail
          refine (awake_any _).mono ?_
          rintro e W3 ⟨rfl, hb3⟩
          go_wp2
          go_ret
          have hB3 := (hB2.alloc hB2.size (.cells #[.int .i64 0, .int .i64 0] 23))
          exact ⟨rfl, hB3.trans (hb3.mono hB3.size)⟩
      · obtain ⟨x3, y3, e3, l3⟩ := stretch_ok n3
        rw [e3] at C3
        rw [Int.add_mul] at l3
        generalize a0 * a2 = q0 at l1 l3
        generalize a1 * a2 = q1 at l2 l3
        have key : (-1010000000000 ≤ x1 ∧ x1 ≤ y1 ∧ y1 ≤ 1010000000000) ∧ (-1010000000000 ≤ x2 ∧ x2 ≤ y2 ∧ y2 ≤ 1010000000000) ∧ x1 + x2 ≤ x3 ∧ x3 ≤ y3 ∧ y3 ≤ y1 + y2 := by
          obtain ⟨p1, m1⟩ := l1
          obtain ⟨p2, m2⟩ := l2
          obtain ⟨p3, m3⟩ := l3
          by_cases s1 : 0 ≤ a0 <;> by_cases s2 : 0 ≤ a1 <;> by_cases s3 : 0 ≤ a0 + a1
          · have := p1 s1; have := p2 s2; have := p3 s3; clear p1 p2 p3 m1 m2 m3; omega
          · omega
          · have := p1 s1; have := m2 (by omega); have := p3 s3; clear p1 p2 p3 m1 m2 m3; omega
          · have := p1 s1; have := m2 (by omega); have := m3 (by omega); clear p1 p2 p3 m1 m2 m3; omega
          · have := m1 (by omega); have := p2 s2; have := p3 s3; clear p1 p2 p3 m1 m2 m3; omega
          · have := m1 (by omega); have := p2 s2; have := m3 (by omega); clear p1 p2 p3 m1 m2 m3; omega
          · omega
          · have := m1 (by omega); have := m2 (by omega); have := m3 (by omega); clear p1 p2 p3 m1 m2 m3; omega
        obtain ⟨k1, k2, k3, k4, k5⟩ := key
        have v1 : vld x1 y1 = true := vld_mk (by omega) (by omega) k1.2.1
        have v2 : vld x2 y2 = true := vld_mk (by omega) (by omega) k2.2.1
        have v3 : vld (x1 + x2) (y1 + y2) = true := vld_mk (by omega) (by omega) (by omega)
        have A := Lib.hid (fun W => add_is (a := x1) (b := y1) (c := x2) (d := y2) (x := x1 + x2) (y := y1 + y2) (z := true) (by unfold addF; rw [if_pos ⟨v1, v2, v3⟩]) W)
        have I1 := Lib.hid (fun W => within_is (a := x1 + x2) (b := y1 + y2) (n := x3) (z := true) (by unfold withinF; rw [v3]; simp; omega) W)
        have I2 := Lib.hid (fun W => within_is (a := x1 + x2) (b := y1 + y2) (n := y3) (z := true) (by unfold withinF; rw [v3]; simp; omega) W)
        clear n1 n2 n3 e1 e2 e3 l1 l2 l3 k1 k2 k3 k4 k5 v1 v2 v3
        generalize x1 + x2 = xs at A I1 I2
        generalize y1 + y2 = ys at A I1 I2
        go_enter Try.func8, Try.ntmps8
        go_wp2_with fail
        refine (C1.out _).mono ?_
        rintro e W0 ⟨rfl, hb0⟩
        go_wp2_with fail
        refine (C2.out _).mono ?_
        rintro e W1 ⟨rfl, hb1⟩
        have L1 := (live_new W0 x1 y1).keep hb1
        have hB := (hb0.alloc hb0.size _).trans (hb1.mono (hb0.alloc hb0.size _).size)
        go_wp2_with fail
        refine (C3.out _).mono ?_
        rintro e W2 ⟨rfl, hb2⟩
        replace L1 := (L1.alloc _).keep hb2
        have L2 := (live_new W1 x2 y2).keep hb2
        have hB2 := (hB.alloc hB.size _).trans (hb2.mono (hB.alloc hB.size _).size)
        have t1 := L1.lt
        have t2 := L1.lo
        have t3 := L1.hi
        have t4 := L2.lt
        have t5 := L2.lo
        have t6 := L2.hi
        go_wp2_with fail
        refine (A.out _).mono ?_
        rintro e W3 ⟨rfl, hb3⟩
        have L3 := (live_new W2 x3 y3).keep hb3
        have hB3 := (hB2.alloc hB2.size _).trans (hb3.mono (hB2.alloc hB2.size _).size)
        have t7 := L3.lt
        have t8 := L3.lo
        have t9 := L3.hi
        clear t1 t2 t3 t4 t5 t6
        go_wp2_with fail
        refine (I1.out _).mono ?_
        rintro e W4 ⟨rfl, hb4⟩
        have L4 := (live_new W3 xs ys).keep hb4
        replace L3 := (L3.alloc _).keep hb4
        have hB4 := (hB3.alloc hB3.size _).trans (hb4.mono (hB3.alloc hB3.size _).size)
        clear t7 t8 t9
        have t7 := L3.lt
        have t8 := L3.lo
        have t9 := L3.hi
        have t1 := L4.lt
        have t2 := L4.lo
        have t3 := L4.hi
        go_wp2_with fail
        refine (I2.out _).mono ?_
        rintro e W5 ⟨rfl, hb5⟩
        have hB5 := hB4.trans (hb5.mono hB4.size)
        go_wp2_with fail
        refine (awake_any _).mono ?_
        rintro e W6 ⟨rfl, hb6⟩
        go_wp2
        go_ret
        exact ⟨rfl, hB5.trans (hb6.mono hB5.size)⟩

/-! ### THE ROW's STEP: WRITTEN OUT: LEAVE IT -/
set_option maxRecDepth 100000 in
theorem lifted (os : Os) (started : os.Started) (H : Type) (enc : TypeId × Value → H) :
    ReturnsInHanded {} Try.checked os 8 .any (Rows.intervalPartsSpec.pre6 enc Try.prog Try.f8 Rows.intervalPartsRow.domain false) (Rows.intervalPartsSpec.post enc Try.prog Try.f8 false true false false) := by
  refine returnsInHanded_of_change (C := Try.checked) own started (by kernel_rfl) Try.func8
    (ChangeSpec.witness6 (enc := enc) (C := Try.checked) false ⟨#[], #[.int .i64 0, .int .i64 0, .int .i64 0], []⟩ 8 (by kernel_rfl) (by kernel_rfl) (by kernel_rfl) (by kernel_rfl)) ?_
  intro W base args ds gs before hval0 hW hcnd _
  have hval : ∀ (j : Nat) t v, Try.f8.params[j]? = some t → args[j]? = some v → Value.okWide Try.prog W .any base t v := hval0
  have hW' := hW
  obtain ⟨p, q, hA0, hV, rfl, hfz, hnd⟩ := hW
  have hA : DataW.TrodAll enc Try.prog W 0 (fun _ => true) true Try.f8.params.toList args.toList ds p := hA0
  rw [Try.params8] at hA hval
  obtain ⟨v0, vs0, d0, ds0, p0, q0, hargs, rfl, rfl, h0, r0⟩ := trodAll_cons hA
  obtain ⟨v1, vs1, d1, ds1, p1, q1, rfl, rfl, rfl, h1, r1⟩ := trodAll_cons r0
  obtain ⟨v2, vs2, d2, ds2, p2, q2, rfl, rfl, rfl, h2, r2⟩ := trodAll_cons r1
  obtain ⟨rfl, rfl, rfl⟩ := trodAll_nil r2
  obtain rfl : args = #[v0, v1, v2] := by cases args; simp_all
  obtain ⟨rfl, rfl⟩ := trodVars_none hV
  obtain ⟨a0, rfl, rfl, rfl, w0⟩ := open_int Try.underlying3 (hval 0 3 v0 rfl rfl) h0
  obtain ⟨a1, rfl, rfl, rfl, w1⟩ := open_int Try.underlying3 (hval 1 3 v1 rfl rfl) h1
  obtain ⟨a2, rfl, rfl, rfl, w2⟩ := open_int Try.underlying3 (hval 2 3 v2 rfl rfl) h2
  clear hA0 hval0
  refine (walk a0 a1 a2 w0 w1 w2 W).mono fun e W' ⟨he, bel⟩ => ?_
  subst he
  exact ⟨_, rfl, _, _, _, [], _, [], hW', trodAll_mk1 (shut_bool Try.underlying4 _), (trodAll_cons_mk (shut_int Try.underlying3 w0) (trodAll_cons_mk (shut_int Try.underlying3 w1) (trodAll_cons_mk (shut_int Try.underlying3 w2) trodAll_mk0))), rfl, bel.frame _, fun h => by cases h⟩

theorem over : Rows.intervalPartsRow.holds Try.pinned (OpenSpec.ofChange Rows.intervalPartsSpec) :=
  OpenClaim.holds_of_wide 8 Try.f8 rfl rfl rfl rfl rfl rfl rfl ⟨rfl, rfl, rfl, rfl, rfl⟩ rfl rfl rfl rfl rfl (by kernel_rfl) Try.func8 (by kernel_rfl)
    (of_decide_eq_true (by kernel_rfl)) (by unfold Func.isWrapper; first | (rw [if_pos (by decide +kernel)]; kernel_rfl) | (rw [if_neg (by decide +kernel)]; exact ⟨rfl, rfl⟩))
    (fun os started H enc _ => lifted os started H enc)

/-- ████ THE STATEMENT ████ -/
theorem proved : Rows.IntervalPartsSaid :=
  over
#print axioms proved
end Go.Proofs.Ytkbmaedofhiegaa.intervalParts
