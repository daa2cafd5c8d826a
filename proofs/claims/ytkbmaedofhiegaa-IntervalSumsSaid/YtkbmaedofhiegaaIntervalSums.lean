/-
  'IntervalSums' (tracebook): the Go text of this law returns true at every input of its types, and writes nothing that was there.
-/
import Derived.Test.YtkbmaedofhiegaaBoxes
import Derived.WalkKit
import Derived.ProofKit
import Derived.OpenShut
import Derived.ShutString
import Derived.ChangeOld
import Derived.Below
namespace Go.Proofs.Ytkbmaedofhiegaa.intervalSums
open Go.ChangeShapes Go.WideShapes Go.ChangeAt Go.RowKit
open Go.ChangeMaps (open_string shut_string)
set_option linter.unusedVariables false

theorem own : ownKnob Try.prog.godebug = none := by kernel_rfl
theorem laidOut : laidOutB Try.prog = true := by kernel_rfl

set_option maxRecDepth 100000 in
set_option maxHeartbeats 3200000 in
theorem walk (a0 b0 : Int) (a1 b1 : Int) (a2 b2 : Int) (w : World) (w0 : (Lit.int .i64 a0).wf = true) (u0 : (Lit.int .i64 b0).wf = true) (w1 : (Lit.int .i64 a1).wf = true) (u1 : (Lit.int .i64 b1).wf = true) (w2 : (Lit.int .i64 a2).wf = true) (u2 : (Lit.int .i64 b2).wf = true) :
    Calls Try.prog 6 #[.agg #[.int .i64 a0, .int .i64 b0], .agg #[.int .i64 a1, .int .i64 b1], .agg #[.int .i64 a2, .int .i64 b2]] w fun e w' => e = .returned (.bool true) ∧ Below w.heap.size w w' := by
  obtain ⟨z, hz⟩ : ∃ z, beforeF a0 b0 a1 b1 = z := ⟨_, rfl⟩
  obtain ⟨y, hy⟩ : ∃ y, beforeF a1 b1 a0 b0 = y := ⟨_, rfl⟩
  obtain ⟨v, hv⟩ : ∃ v, vld a0 b0 = v := ⟨_, rfl⟩
  obtain ⟨u, hu⟩ : ∃ u, vld a1 b1 = u := ⟨_, rfl⟩
  obtain ⟨⟨mx, my, mz⟩, hm⟩ : ∃ m, meetF a0 b0 a1 b1 = m := ⟨_, rfl⟩
  have Tl : (v = false ∧ z = false ∧ y = false) ∨ (v = true ∧ u = false ∧ z = false ∧ y = false) ∨ (v = true ∧ u = true ∧ z = true ∧ mz = false) ∨ (v = true ∧ u = true ∧ z = false ∧ mz = !y) := by
    cases v
    · exact .inl ⟨rfl, by rw [← hz]; exact beforeF_false (.inl hv), by rw [← hy]; exact beforeF_false (.inr hv)⟩
    · cases u
      · exact .inr (.inl ⟨rfl, rfl, by rw [← hz]; exact beforeF_false (.inr hu), by rw [← hy]; exact beforeF_false (.inl hu)⟩)
      · have hk := meetF_ok hv hu
        rw [hm, hz, hy] at hk
        simp only at hk
        cases z
        · exact .inr (.inr (.inr ⟨rfl, rfl, rfl, by simpa using hk⟩))
        · exact .inr (.inr (.inl ⟨rfl, rfl, rfl, by simpa using hk⟩))
  have P1 := Lib.hid (fun W => before_is hz W)
  have P2 := Lib.hid (fun W => before_is hy W)
  have V1 := Lib.hid (fun W => valid_is' hv W)
  have V2 := Lib.hid (fun W => valid_is' hu W)
  have M := Lib.hid (fun W => meet_is hm W)
  have A2 := addF_comm a0 b0 a1 b1
  rcases addF_cases a0 b0 a1 b1 with hA | ⟨hA, q1, q2, q3⟩
  · rw [hA] at A2
    have A := Lib.hid (fun W => add_is hA W)
    have B := Lib.hid (fun W => add_is A2 W)
    clear hA A2 hz hy hv hu hm
    go_enter Try.func6, Try.ntmps6
    go_wp2_with fail
    have hX : Boxes w [(w.heap.size + 1 + 1, a2, b2), (w.heap.size + 1, a1, b1), (w.heap.size, a0, b0)] (((w.alloc (.cells #[.int .i64 a0, .int .i64 b0] 23)).alloc (.cells #[.int .i64 a1, .int .i64 b1] 23)).alloc (.cells #[.int .i64 a2, .int .i64 b2] 34)) := by
      simpa using (((Boxes.nil w).push a0 b0 23).push a1 b1 23).push a2 b2 34
    have hF := hX.1
    simp only [Facts, and_true] at hF
    generalize (((w.alloc (.cells #[.int .i64 a0, .int .i64 b0] 23)).alloc (.cells #[.int .i64 a1, .int .i64 b1] 23)).alloc (.cells #[.int .i64 a2, .int .i64 b2] 34)) = W0 at hX hF ⊢
    generalize w.heap.size + 1 + 1 = g2 at hX hF ⊢
    generalize w.heap.size + 1 = g1 at hX hF ⊢
    generalize w.heap.size = g0 at hX hF ⊢
    go_quiet (fail)
    clear hF
    replace hX := hX.drewN nq
    have hF := hX.1
    simp only [Facts, and_true] at hF
    generalize W0.drewN nq = W1 at hX hF ⊢
    clear W0
    go_wp2_with fail
    refine (A.out _).mono ?_
    rintro e W2 ⟨rfl, hb2⟩
    clear hF
    replace hX := hX.keep hb2
    clear hb2
    have hF := hX.1
    simp only [Facts, and_true] at hF
    go_wp2_with fail
    refine (B.out _).mono ?_
    rintro e W3 ⟨rfl, hb3⟩
    clear hF
    replace hX := (hX.push _ _ 23).keep hb3
    clear hb3
    have hF := hX.1
    simp only [Facts, and_true] at hF
    clear A B
    rcases Tl with ⟨rfl, rfl, rfl⟩ | ⟨rfl, rfl, rfl, rfl⟩ | ⟨rfl, rfl, rfl, rfl⟩ | ⟨rfl, rfl, rfl, rfl⟩
    · go_wp2_with fail
      refine (M.out _).mono ?_
      rintro e W4 ⟨rfl, hb4⟩
      clear hF
      replace hX := (hX.push _ _ 23).keep hb4
      clear hb4
      have hF := hX.1
      simp only [Facts, and_true] at hF
      go_wp2_with fail
      refine (P1.out _).mono ?_
      rintro e W5 ⟨rfl, hb5⟩
      clear hF
      replace hX := (hX.push _ _ 23).keep hb5
      clear hb5
      have hF := hX.1
      simp only [Facts, and_true] at hF
      go_wp2_with fail
      refine (P2.out _).mono ?_
      rintro e W6 ⟨rfl, hb6⟩
      clear hF
      replace hX := hX.keep hb6
      clear hb6
      have hF := hX.1
      simp only [Facts, and_true] at hF
      go_wp2_with fail
      refine (V1.out _).mono ?_
      rintro e W7 ⟨rfl, hb7⟩
      clear hF
      replace hX := hX.keep hb7
      clear hb7
      have hF := hX.1
      simp only [Facts, and_true] at hF
      go_wp2_with fail
      refine (awake_any _).mono ?_
      rintro e W99 ⟨rfl, hb99⟩
      replace hX := hX.keep hb99
      go_wp2
      go_ret
      exact ⟨rfl, hX.2⟩
    · go_wp2_with fail
      refine (M.out _).mono ?_
      rintro e W4 ⟨rfl, hb4⟩
      clear hF
      replace hX := (hX.push _ _ 23).keep hb4
      clear hb4
      have hF := hX.1
      simp only [Facts, and_true] at hF
      go_wp2_with fail
      refine (P1.out _).mono ?_
      rintro e W5 ⟨rfl, hb5⟩
      clear hF
      replace hX := (hX.push _ _ 23).keep hb5
      clear hb5
      have hF := hX.1
      simp only [Facts, and_true] at hF
      go_wp2_with fail
      refine (P2.out _).mono ?_
      rintro e W6 ⟨rfl, hb6⟩
      clear hF
      replace hX := hX.keep hb6
      clear hb6
      have hF := hX.1
      simp only [Facts, and_true] at hF
      go_wp2_with fail
      refine (V1.out _).mono ?_
      rintro e W7 ⟨rfl, hb7⟩
      clear hF
      replace hX := hX.keep hb7
      clear hb7
      have hF := hX.1
      simp only [Facts, and_true] at hF
      go_wp2_with fail
      refine (V2.out _).mono ?_
      rintro e W8 ⟨rfl, hb8⟩
      clear hF
      replace hX := hX.keep hb8
      clear hb8
      have hF := hX.1
      simp only [Facts, and_true] at hF
      go_wp2_with fail
      refine (awake_any _).mono ?_
      rintro e W99 ⟨rfl, hb99⟩
      replace hX := hX.keep hb99
      go_wp2
      go_ret
      exact ⟨rfl, hX.2⟩
    · go_wp2_with fail
      refine (M.out _).mono ?_
      rintro e W4 ⟨rfl, hb4⟩
      clear hF
      replace hX := (hX.push _ _ 23).keep hb4
      clear hb4
      have hF := hX.1
      simp only [Facts, and_true] at hF
      go_wp2_with fail
      refine (P1.out _).mono ?_
      rintro e W5 ⟨rfl, hb5⟩
      clear hF
      replace hX := (hX.push _ _ 23).keep hb5
      clear hb5
      have hF := hX.1
      simp only [Facts, and_true] at hF
      go_wp2_with fail
      refine (V1.out _).mono ?_
      rintro e W6 ⟨rfl, hb6⟩
      clear hF
      replace hX := hX.keep hb6
      clear hb6
      have hF := hX.1
      simp only [Facts, and_true] at hF
      go_wp2_with fail
      refine (V2.out _).mono ?_
      rintro e W7 ⟨rfl, hb7⟩
      clear hF
      replace hX := hX.keep hb7
      clear hb7
      have hF := hX.1
      simp only [Facts, and_true] at hF
      go_wp2_with fail
      refine (awake_any _).mono ?_
      rintro e W99 ⟨rfl, hb99⟩
      replace hX := hX.keep hb99
      go_wp2
      go_ret
      exact ⟨rfl, hX.2⟩
    · go_wp2_with fail
      refine (M.out _).mono ?_
      rintro e W4 ⟨rfl, hb4⟩
      clear hF
      replace hX := (hX.push _ _ 23).keep hb4
      clear hb4
      have hF := hX.1
      simp only [Facts, and_true] at hF
      go_wp2_with fail
      refine (P1.out _).mono ?_
      rintro e W5 ⟨rfl, hb5⟩
      clear hF
      replace hX := (hX.push _ _ 23).keep hb5
      clear hb5
      have hF := hX.1
      simp only [Facts, and_true] at hF
      go_wp2_with fail
      refine (P2.out _).mono ?_
      rintro e W6 ⟨rfl, hb6⟩
      clear hF
      replace hX := hX.keep hb6
      clear hb6
      have hF := hX.1
      simp only [Facts, and_true] at hF
      go_wp2_with fail
      refine (V1.out _).mono ?_
      rintro e W7 ⟨rfl, hb7⟩
      clear hF
      replace hX := hX.keep hb7
      clear hb7
      have hF := hX.1
      simp only [Facts, and_true] at hF
      go_wp2_with fail
      refine (V2.out _).mono ?_
      rintro e W8 ⟨rfl, hb8⟩
      clear hF
      replace hX := hX.keep hb8
      clear hb8
      have hF := hX.1
      simp only [Facts, and_true] at hF
      go_wp2_with fail
      refine (awake_any _).mono ?_
      rintro e W99 ⟨rfl, hb99⟩
      replace hX := hX.keep hb99
      go_wp2
      go_ret
      exact ⟨rfl, hX.2⟩
  · rw [hA] at A2
    have k1 := vld_range q1
    have k2 := vld_range q2
    obtain ⟨wa, hwa⟩ : ∃ z, withinF a0 b0 a2 = z := ⟨_, rfl⟩
    obtain ⟨wb, hwb⟩ : ∃ z, withinF a1 b1 b2 = z := ⟨_, rfl⟩
    have A := Lib.hid (fun W => add_is hA W)
    have B := Lib.hid (fun W => add_is A2 W)
    have I1 := Lib.hid (fun W => within_is hwa W)
    have I2 := Lib.hid (fun W => within_is hwb W)
    have e1 : IntKind.i64.wrap (a0 + a1) = a0 + a1 := IntWalk.i64_in _ (by omega)
    have e2 : IntKind.i64.wrap (b0 + b1) = b0 + b1 := IntWalk.i64_in _ (by omega)
    have R : wa = true → wb = true → (-1000000000000000 ≤ a2 ∧ a2 ≤ 1000000000000000) ∧ (-1000000000000000 ≤ b2 ∧ b2 ≤ 1000000000000000) ∧ withinF (a0 + a1) (b0 + b1) (a2 + b2) = true := by
      rintro rfl rfl
      unfold withinF at hwa hwb ⊢
      rw [q1] at hwa
      rw [q2] at hwb
      rw [q3]
      simp at hwa hwb ⊢
      omega
    replace Tl : (v = true ∧ u = true ∧ z = true ∧ mz = false) ∨ (v = true ∧ u = true ∧ z = false ∧ mz = !y) := by
      rw [q1] at hv; rw [q2] at hu; subst hv hu
      simpa using Tl
    clear hA A2 hz hy hv hu hm hwa hwb q1 q2 q3
    go_enter Try.func6, Try.ntmps6
    go_wp2_with fail
    have hX : Boxes w [(w.heap.size + 1 + 1, a2, b2), (w.heap.size + 1, a1, b1), (w.heap.size, a0, b0)] (((w.alloc (.cells #[.int .i64 a0, .int .i64 b0] 23)).alloc (.cells #[.int .i64 a1, .int .i64 b1] 23)).alloc (.cells #[.int .i64 a2, .int .i64 b2] 34)) := by
      simpa using (((Boxes.nil w).push a0 b0 23).push a1 b1 23).push a2 b2 34
    have hF := hX.1
    simp only [Facts, and_true] at hF
    generalize (((w.alloc (.cells #[.int .i64 a0, .int .i64 b0] 23)).alloc (.cells #[.int .i64 a1, .int .i64 b1] 23)).alloc (.cells #[.int .i64 a2, .int .i64 b2] 34)) = W0 at hX hF ⊢
    generalize w.heap.size + 1 + 1 = g2 at hX hF ⊢
    generalize w.heap.size + 1 = g1 at hX hF ⊢
    generalize w.heap.size = g0 at hX hF ⊢
    go_quiet (fail)
    clear hF
    replace hX := hX.drewN nq
    have hF := hX.1
    simp only [Facts, and_true] at hF
    generalize W0.drewN nq = W1 at hX hF ⊢
    clear W0
    go_wp2_with fail
    refine (A.out _).mono ?_
    rintro e W2 ⟨rfl, hb2⟩
    clear hF
    replace hX := hX.keep hb2
    clear hb2
    have hF := hX.1
    simp only [Facts, and_true] at hF
    go_wp2_with fail
    refine (B.out _).mono ?_
    rintro e W3 ⟨rfl, hb3⟩
    clear hF
    replace hX := (hX.push _ _ 23).keep hb3
    clear hb3
    have hF := hX.1
    simp only [Facts, and_true] at hF
    clear A B
    cases wa
    · clear R
      go_wp2_with fail
      refine (I1.out _).mono ?_
      rintro e W4 ⟨rfl, hb4⟩
      clear hF
      replace hX := (hX.push _ _ 23).keep hb4
      clear hb4
      have hF := hX.1
      simp only [Facts, and_true] at hF
      rcases Tl with ⟨rfl, rfl, rfl, rfl⟩ | ⟨rfl, rfl, rfl, rfl⟩
      · go_wp2_with fail
        refine (M.out _).mono ?_
        rintro e W5 ⟨rfl, hb5⟩
        clear hF
        replace hX := hX.keep hb5
        clear hb5
        have hF := hX.1
        simp only [Facts, and_true] at hF
        go_wp2_with fail
        refine (P1.out _).mono ?_
        rintro e W6 ⟨rfl, hb6⟩
        clear hF
        replace hX := (hX.push _ _ 23).keep hb6
        clear hb6
        have hF := hX.1
        simp only [Facts, and_true] at hF
        go_wp2_with fail
        refine (V1.out _).mono ?_
        rintro e W7 ⟨rfl, hb7⟩
        clear hF
        replace hX := hX.keep hb7
        clear hb7
        have hF := hX.1
        simp only [Facts, and_true] at hF
        go_wp2_with fail
        refine (V2.out _).mono ?_
        rintro e W8 ⟨rfl, hb8⟩
        clear hF
        replace hX := hX.keep hb8
        clear hb8
        have hF := hX.1
        simp only [Facts, and_true] at hF
        go_wp2_with fail
        refine (awake_any _).mono ?_
        rintro e W99 ⟨rfl, hb99⟩
        replace hX := hX.keep hb99
        go_wp2
        go_ret
        exact ⟨rfl, hX.2⟩
      · go_wp2_with fail
        refine (M.out _).mono ?_
        rintro e W5 ⟨rfl, hb5⟩
        clear hF
        replace hX := hX.keep hb5
        clear hb5
        have hF := hX.1
        simp only [Facts, and_true] at hF
        go_wp2_with fail
        refine (P1.out _).mono ?_
        rintro e W6 ⟨rfl, hb6⟩
        clear hF
        replace hX := (hX.push _ _ 23).keep hb6
        clear hb6
        have hF := hX.1
        simp only [Facts, and_true] at hF
        go_wp2_with fail
        refine (P2.out _).mono ?_
        rintro e W7 ⟨rfl, hb7⟩
        clear hF
        replace hX := hX.keep hb7
        clear hb7
        have hF := hX.1
        simp only [Facts, and_true] at hF
        go_wp2_with fail
        refine (V1.out _).mono ?_
        rintro e W8 ⟨rfl, hb8⟩
        clear hF
        replace hX := hX.keep hb8
        clear hb8
        have hF := hX.1
        simp only [Facts, and_true] at hF
        go_wp2_with fail
        refine (V2.out _).mono ?_
        rintro e W9 ⟨rfl, hb9⟩
        clear hF
        replace hX := hX.keep hb9
        clear hb9
        have hF := hX.1
        simp only [Facts, and_true] at hF
        go_wp2_with fail
        refine (awake_any _).mono ?_
        rintro e W99 ⟨rfl, hb99⟩
        replace hX := hX.keep hb99
        go_wp2
        go_ret
        exact ⟨rfl, hX.2⟩
    · cases wb
      · clear R
        go_wp2_with fail
        refine (I1.out _).mono ?_
        rintro e W4 ⟨rfl, hb4⟩
        clear hF
        replace hX := (hX.push _ _ 23).keep hb4
        clear hb4
        have hF := hX.1
        simp only [Facts, and_true] at hF
        go_wp2_with fail
        refine (I2.out _).mono ?_
        rintro e W5 ⟨rfl, hb5⟩
        clear hF
        replace hX := hX.keep hb5
        clear hb5
        have hF := hX.1
        simp only [Facts, and_true] at hF
        rcases Tl with ⟨rfl, rfl, rfl, rfl⟩ | ⟨rfl, rfl, rfl, rfl⟩
        · go_wp2_with fail
          refine (M.out _).mono ?_
          rintro e W6 ⟨rfl, hb6⟩
          clear hF
          replace hX := hX.keep hb6
          clear hb6
          have hF := hX.1
          simp only [Facts, and_true] at hF
          go_wp2_with fail
          refine (P1.out _).mono ?_
          rintro e W7 ⟨rfl, hb7⟩
          clear hF
          replace hX := (hX.push _ _ 23).keep hb7
          clear hb7
          have hF := hX.1
          simp only [Facts, and_true] at hF
          go_wp2_with fail
          refine (V1.out _).mono ?_
          rintro e W8 ⟨rfl, hb8⟩
          clear hF
          replace hX := hX.keep hb8
          clear hb8
          have hF := hX.1
          simp only [Facts, and_true] at hF
          go_wp2_with fail
          refine (V2.out _).mono ?_
          rintro e W9 ⟨rfl, hb9⟩
          clear hF
          replace hX := hX.keep hb9
          clear hb9
          have hF := hX.1
          simp only [Facts, and_true] at hF
          go_wp2_with fail
          refine (awake_any _).mono ?_
          rintro e W99 ⟨rfl, hb99⟩
          replace hX := hX.keep hb99
          go_wp2
          go_ret
          exact ⟨rfl, hX.2⟩
        · go_wp2_with fail
          refine (M.out _).mono ?_
          rintro e W6 ⟨rfl, hb6⟩
          clear hF
          replace hX := hX.keep hb6
          clear hb6
          have hF := hX.1
          simp only [Facts, and_true] at hF
          go_wp2_with fail
          refine (P1.out _).mono ?_
          rintro e W7 ⟨rfl, hb7⟩
          clear hF
          replace hX := (hX.push _ _ 23).keep hb7
          clear hb7
          have hF := hX.1
          simp only [Facts, and_true] at hF
          go_wp2_with fail
          refine (P2.out _).mono ?_
          rintro e W8 ⟨rfl, hb8⟩
          clear hF
          replace hX := hX.keep hb8
          clear hb8
          have hF := hX.1
          simp only [Facts, and_true] at hF
          go_wp2_with fail
          refine (V1.out _).mono ?_
          rintro e W9 ⟨rfl, hb9⟩
          clear hF
          replace hX := hX.keep hb9
          clear hb9
          have hF := hX.1
          simp only [Facts, and_true] at hF
          go_wp2_with fail
          refine (V2.out _).mono ?_
          rintro e W10 ⟨rfl, hb10⟩
          clear hF
          replace hX := hX.keep hb10
          clear hb10
          have hF := hX.1
          simp only [Facts, and_true] at hF
          go_wp2_with fail
          refine (awake_any _).mono ?_
          rintro e W99 ⟨rfl, hb99⟩
          replace hX := hX.keep hb99
          go_wp2
          go_ret
          exact ⟨rfl, hX.2⟩
      · obtain ⟨r1, r2, r3⟩ := R rfl rfl
        have e3 : IntKind.i64.wrap (a2 + b2) = a2 + b2 := IntWalk.i64_in _ (by omega)
        have I3 := Lib.hid (fun W => within_is r3 W)
        clear R r1 r2 r3
        go_wp2_with fail
        refine (I1.out _).mono ?_
        rintro e W4 ⟨rfl, hb4⟩
        clear hF
        replace hX := (hX.push _ _ 23).keep hb4
        clear hb4
        have hF := hX.1
        simp only [Facts, and_true] at hF
        go_wp2_with fail
        refine (I2.out _).mono ?_
        rintro e W5 ⟨rfl, hb5⟩
        clear hF
        replace hX := hX.keep hb5
        clear hb5
        have hF := hX.1
        simp only [Facts, and_true] at hF
        go_wp2_with fail
        refine (I3.out _).mono ?_
        rintro e W6 ⟨rfl, hb6⟩
        clear hF
        replace hX := hX.keep hb6
        clear hb6
        have hF := hX.1
        simp only [Facts, and_true] at hF
        rcases Tl with ⟨rfl, rfl, rfl, rfl⟩ | ⟨rfl, rfl, rfl, rfl⟩
        · go_wp2_with fail
          refine (M.out _).mono ?_
          rintro e W7 ⟨rfl, hb7⟩
          clear hF
          replace hX := hX.keep hb7
          clear hb7
          have hF := hX.1
          simp only [Facts, and_true] at hF
          go_wp2_with fail
          refine (P1.out _).mono ?_
          rintro e W8 ⟨rfl, hb8⟩
          clear hF
          replace hX := (hX.push _ _ 23).keep hb8
          clear hb8
          have hF := hX.1
          simp only [Facts, and_true] at hF
          go_wp2_with fail
          refine (V1.out _).mono ?_
          rintro e W9 ⟨rfl, hb9⟩
          clear hF
          replace hX := hX.keep hb9
          clear hb9
          have hF := hX.1
          simp only [Facts, and_true] at hF
          go_wp2_with fail
          refine (V2.out _).mono ?_
          rintro e W10 ⟨rfl, hb10⟩
          clear hF
          replace hX := hX.keep hb10
          clear hb10
          have hF := hX.1
          simp only [Facts, and_true] at hF
          go_wp2_with fail
          refine (awake_any _).mono ?_
          rintro e W99 ⟨rfl, hb99⟩
          replace hX := hX.keep hb99
          go_wp2
          go_ret
          exact ⟨rfl, hX.2⟩
        · go_wp2_with fail
          refine (M.out _).mono ?_
          rintro e W7 ⟨rfl, hb7⟩
          clear hF
          replace hX := hX.keep hb7
          clear hb7
          have hF := hX.1
          simp only [Facts, and_true] at hF
          go_wp2_with fail
          refine (P1.out _).mono ?_
          rintro e W8 ⟨rfl, hb8⟩
          clear hF
          replace hX := (hX.push _ _ 23).keep hb8
          clear hb8
          have hF := hX.1
          simp only [Facts, and_true] at hF
          go_wp2_with fail
          refine (P2.out _).mono ?_
          rintro e W9 ⟨rfl, hb9⟩
          clear hF
          replace hX := hX.keep hb9
          clear hb9
          have hF := hX.1
          simp only [Facts, and_true] at hF
          go_wp2_with fail
          refine (V1.out _).mono ?_
          rintro e W10 ⟨rfl, hb10⟩
          clear hF
          replace hX := hX.keep hb10
          clear hb10
          have hF := hX.1
          simp only [Facts, and_true] at hF
          go_wp2_with fail
          refine (V2.out _).mono ?_
          rintro e W11 ⟨rfl, hb11⟩
          clear hF
          replace hX := hX.keep hb11
          clear hb11
          have hF := hX.1
          simp only [Facts, and_true] at hF
          go_wp2_with fail
          refine (awake_any _).mono ?_
          rintro e W99 ⟨rfl, hb99⟩
          replace hX := hX.keep hb99
          go_wp2
          go_ret
          exact ⟨rfl, hX.2⟩

set_option maxRecDepth 100000 in
theorem lifted (os : Os) (started : os.Started) (H : Type) (enc : TypeId × Value → H) :
    ReturnsInHanded {} Try.checked os 6 .any (Rows.intervalSumsSpec.pre6 enc Try.prog Try.f6 Rows.intervalSumsRow.domain false) (Rows.intervalSumsSpec.post enc Try.prog Try.f6 false true false false) := by
  refine returnsInHanded_of_change (C := Try.checked) own started (by kernel_rfl) Try.func6
    (ChangeSpec.witness6 (enc := enc) (C := Try.checked) false ⟨#[], #[.agg #[.int .i64 0, .int .i64 0], .agg #[.int .i64 0, .int .i64 0], .agg #[.int .i64 0, .int .i64 0]], []⟩ 8 (by kernel_rfl) (by kernel_rfl) (by kernel_rfl) (by kernel_rfl)) ?_
  intro W base args ds gs before hval0 hW hcnd _
  have hval : ∀ (j : Nat) t v, Try.f6.params[j]? = some t → args[j]? = some v → Value.okWide Try.prog W .any base t v := hval0
  have hW' := hW
  obtain ⟨p, q, hA0, hV, rfl, hfz, hnd⟩ := hW
  have hA : DataW.TrodAll enc Try.prog W 0 (fun _ => true) true Try.f6.params.toList args.toList ds p := hA0
  rw [Try.params6] at hA hval
  obtain ⟨v0, vs0, d0, ds0, p0, q0, hargs, rfl, rfl, h0, r0⟩ := trodAll_cons hA
  obtain ⟨v1, vs1, d1, ds1, p1, q1, rfl, rfl, rfl, h1, r1⟩ := trodAll_cons r0
  obtain ⟨v2, vs2, d2, ds2, p2, q2, rfl, rfl, rfl, h2, r2⟩ := trodAll_cons r1
  obtain ⟨rfl, rfl, rfl⟩ := trodAll_nil r2
  obtain rfl : args = #[v0, v1, v2] := by cases args; simp_all
  obtain ⟨rfl, rfl⟩ := trodVars_none hV
  have k0 := h0
  have lt0 : ∀ x ∈ p0, x.block < W.heap.size := by obtain ⟨m, hm⟩ := k0; exact DataW.trod_lt m _ _ _ hm
  obtain ⟨a0, b0, rfl, w0, u0⟩ := open_iv (hval 0 23 v0 rfl rfl) h0
  have k1 := h1
  have lt1 : ∀ x ∈ p1, x.block < W.heap.size := by obtain ⟨m, hm⟩ := k1; exact DataW.trod_lt m _ _ _ hm
  obtain ⟨a1, b1, rfl, w1, u1⟩ := open_iv (hval 1 23 v1 rfl rfl) h1
  have k2 := h2
  have lt2 : ∀ x ∈ p2, x.block < W.heap.size := by obtain ⟨m, hm⟩ := k2; exact DataW.trod_lt m _ _ _ hm
  obtain ⟨a2, b2, rfl, w2, u2⟩ := open_pair (hval 2 34 v2 rfl rfl) h2
  clear hA0 hval0
  refine (walk a0 b0 a1 b1 a2 b2 W w0 u0 w1 u1 w2 u2).mono fun e W' ⟨he, bel⟩ => ?_
  subst he
  exact ⟨_, rfl, _, _, _, [], _, [], hW', trodAll_mk1 (shut_bool Try.underlying4 _), (trodAll_cons_mk (Below.trod laidOut (by kernel_rfl) (of_decide_eq_true (by kernel_rfl)) k0 bel lt0) (trodAll_cons_mk (Below.trod laidOut (by kernel_rfl) (of_decide_eq_true (by kernel_rfl)) k1 bel lt1) (trodAll_cons_mk (Below.trod laidOut (by kernel_rfl) (of_decide_eq_true (by kernel_rfl)) k2 bel lt2) trodAll_mk0))), rfl, bel.frame _, fun h => by cases h⟩

theorem over : Rows.intervalSumsRow.holds Try.pinned (OpenSpec.ofChange Rows.intervalSumsSpec) :=
  OpenClaim.holds_of_wide 6 Try.f6 rfl rfl rfl rfl rfl rfl rfl ⟨rfl, rfl, rfl, rfl, rfl⟩ rfl rfl rfl rfl rfl (by kernel_rfl) Try.func6 (by kernel_rfl)
    (of_decide_eq_true (by kernel_rfl)) (by unfold Func.isWrapper; first | (rw [if_pos (by decide +kernel)]; kernel_rfl) | (rw [if_neg (by decide +kernel)]; exact ⟨rfl, rfl⟩))
    (fun os started H enc _ => lifted os started H enc)

theorem proved : Rows.IntervalSumsSaid := over
#print axioms proved
end Go.Proofs.Ytkbmaedofhiegaa.intervalSums
