/-
  'IntervalExact' (tracebook): the Go text of this law returns true at every input of its types, and writes nothing that was there.
-/
import Derived.Test.YtkbmaedofhiegaaBoxes
import Derived.WalkKit
import Derived.ProofKit
import Derived.OpenShut
import Derived.ShutString
import Derived.ChangeOld
import Derived.Below
namespace Go.Proofs.Ytkbmaedofhiegaa.intervalExact
open Go.ChangeShapes Go.WideShapes Go.ChangeAt Go.RowKit
open Go.ChangeMaps (open_string shut_string)
set_option linter.unusedVariables false

theorem own : ownKnob Try.prog.godebug = none := by kernel_rfl
theorem laidOut : laidOutB Try.prog = true := by kernel_rfl

set_option maxRecDepth 100000 in
set_option maxHeartbeats 3200000 in
theorem walk (a0 b0 : Int) (a1 b1 : Int) (a2 : Int) (w : World) (w0 : (Lit.int .i64 a0).wf = true) (u0 : (Lit.int .i64 b0).wf = true) (w1 : (Lit.int .i64 a1).wf = true) (u1 : (Lit.int .i64 b1).wf = true) (w2 : (Lit.int .i64 a2).wf = true) :
    Calls Try.prog 3 #[.agg #[.int .i64 a0, .int .i64 b0], .agg #[.int .i64 a1, .int .i64 b1], .int .i64 a2] w fun e w' => e = .returned (.bool true) ∧ Below w.heap.size w w' := by
  obtain ⟨⟨mx, my, mz⟩, hm⟩ : ∃ m, meetF a0 b0 a1 b1 = m := ⟨_, rfl⟩
  obtain ⟨⟨sx, sy, sz⟩, hs⟩ : ∃ m, addF a0 b0 a1 b1 = m := ⟨_, rfl⟩
  obtain ⟨⟨hx, hy⟩, hh⟩ : ∃ m, hullF a0 b0 a1 b1 = m := ⟨_, rfl⟩
  obtain ⟨p, hp⟩ : ∃ z, beforeF a0 b0 a1 b1 = z := ⟨_, rfl⟩
  obtain ⟨q, hq⟩ : ∃ z, withinF a0 b0 a2 = z := ⟨_, rfl⟩
  obtain ⟨v, hv⟩ : ∃ v, vld a0 b0 = v := ⟨_, rfl⟩
  have M1 := Lib.hid (fun W => meet_any a0 b0 a1 b1 W)
  have M2 := Lib.hid (fun W => rmeet_any a0 b0 a1 b1 W)
  have S1 := Lib.hid (fun W => add_any a0 b0 a1 b1 W)
  have S2 := Lib.hid (fun W => radd_any a0 b0 a1 b1 W)
  have H1 := Lib.hid (fun W => hull_any a0 b0 a1 b1 W)
  have H2 := Lib.hid (fun W => rhull_any a0 b0 a1 b1 W)
  have P1 := Lib.hid (fun W => before_any a0 b0 a1 b1 W)
  have P2 := Lib.hid (fun W => rbefore_any a0 b0 a1 b1 W)
  have Q1 := Lib.hid (fun W => within_any a0 b0 a2 W)
  have Q2 := Lib.hid (fun W => rwithin_any a0 b0 a2 W)
  have V1 := Lib.hid (fun W => valid_any a0 b0 W)
  have V2 := Lib.hid (fun W => rvalid_any a0 b0 W)
  rw [hm] at M1 M2
  rw [hs] at S1 S2
  rw [hh] at H1 H2
  rw [hp] at P1 P2
  rw [hq] at Q1 Q2
  rw [hv] at V1 V2
  clear hm hs hh hp hq hv
  go_enter Try.func3, Try.ntmps3
  go_wp2_with fail
  have hX : Boxes w [(w.heap.size + 1, a1, b1), (w.heap.size, a0, b0)] ((w.alloc (.cells #[.int .i64 a0, .int .i64 b0] 23)).alloc (.cells #[.int .i64 a1, .int .i64 b1] 23)) := by
    simpa using ((Boxes.nil w).push a0 b0 23).push a1 b1 23
  have hF := hX.1
  simp only [Facts, and_true] at hF
  generalize ((w.alloc (.cells #[.int .i64 a0, .int .i64 b0] 23)).alloc (.cells #[.int .i64 a1, .int .i64 b1] 23)) = W0 at hX hF ⊢
  generalize w.heap.size + 1 = g1 at hX hF ⊢
  generalize w.heap.size = g0 at hX hF ⊢
  go_wp2_with fail
  refine (M1.out _).mono ?_
  rintro e W1 ⟨rfl, hb1⟩
  clear hF
  replace hX := hX.keep hb1
  clear hb1
  have hF := hX.1
  simp only [Facts, and_true] at hF
  go_wp2_with fail
  refine (M2.out _).mono ?_
  rintro e W2 ⟨rfl, hb2⟩
  clear hF
  replace hX := (hX.push _ _ 23).keep hb2
  clear hb2
  have hF := hX.1
  simp only [Facts, and_true] at hF
  go_wp2_with fail
  refine (S1.out _).mono ?_
  rintro e W3 ⟨rfl, hb3⟩
  clear hF
  replace hX := (hX.push _ _ 23).keep hb3
  clear hb3
  have hF := hX.1
  simp only [Facts, and_true] at hF
  go_wp2_with fail
  refine (S2.out _).mono ?_
  rintro e W4 ⟨rfl, hb4⟩
  clear hF
  replace hX := (hX.push _ _ 23).keep hb4
  clear hb4
  have hF := hX.1
  simp only [Facts, and_true] at hF
  clear M1 M2 S1 S2
  go_wp2_with fail
  clear hF
  replace hX := hX.push sx sy 23
  generalize W4.alloc (.cells #[.int .i64 sx, .int .i64 sy] 23) = W5 at hX ⊢
  generalize W4.heap.size = g5 at hX ⊢
  generalize W3.heap.size = g4 at hX ⊢
  generalize W2.heap.size = g3 at hX ⊢
  generalize W1.heap.size = g2 at hX ⊢
  have hS := hX.drew.s6
  clear hX
  go_region_held (fun W => (g5 < W.heap.size ∧ W.cell? ⟨g5, 0, none⟩ = some (.int .i64 sx) ∧ W.cell? ⟨g5, 1, none⟩ = some (.int .i64 sy) ∧ g4 < W.heap.size ∧ W.cell? ⟨g4, 0, none⟩ = some (.int .i64 sx) ∧ W.cell? ⟨g4, 1, none⟩ = some (.int .i64 sy) ∧ g3 < W.heap.size ∧ W.cell? ⟨g3, 0, none⟩ = some (.int .i64 mx) ∧ W.cell? ⟨g3, 1, none⟩ = some (.int .i64 my) ∧ g2 < W.heap.size ∧ W.cell? ⟨g2, 0, none⟩ = some (.int .i64 mx) ∧ W.cell? ⟨g2, 1, none⟩ = some (.int .i64 my) ∧ g1 < W.heap.size ∧ W.cell? ⟨g1, 0, none⟩ = some (.int .i64 a1) ∧ W.cell? ⟨g1, 1, none⟩ = some (.int .i64 b1) ∧ g0 < W.heap.size ∧ W.cell? ⟨g0, 0, none⟩ = some (.int .i64 a0) ∧ W.cell? ⟨g0, 1, none⟩ = some (.int .i64 b0)) ∧ Boxes w [(g5, sx, sy), (g4, sx, sy), (g3, mx, my), (g2, mx, my), (g1, a1, b1), (g0, a0, b0)] W)
    (first | with_reducible exact hS2 | with_reducible exact hS)
    (first
      | (go_at_call 13; refine (carryB (w := w) (L := [(g5, sx, sy), (g4, sx, sy), (g3, mx, my), (g2, mx, my), (g1, a1, b1), (g0, a0, b0)]) (V1.out _) ?_).mono ?_; (first | exact hS2.2 | exact hS.2); rintro e W ⟨rfl, hX2⟩; have hS2 := hX2.s6)
            | (go_at_call 14; refine (carryB (w := w) (L := [(g5, sx, sy), (g4, sx, sy), (g3, mx, my), (g2, mx, my), (g1, a1, b1), (g0, a0, b0)]) (V2.out _) ?_).mono ?_; (first | exact hS2.2 | exact hS.2); rintro e W ⟨rfl, hX2⟩; have hS2 := hX2.s6)
            | (go_at_call 15; refine (carryB (w := w) (L := [(g5, sx, sy), (g4, sx, sy), (g3, mx, my), (g2, mx, my), (g1, a1, b1), (g0, a0, b0)]) (H1.out _) ?_).mono ?_; (first | exact hS2.2 | exact hS.2); rintro e W ⟨rfl, hX2⟩; have hS2 := hX2.s6)
            | (go_at_call 16; refine (carryB (w := w) (L := [(g5, sx, sy), (g4, sx, sy), (g3, mx, my), (g2, mx, my), (g1, a1, b1), (g0, a0, b0)]) (H2.out _) ?_).mono ?_; (first | exact hS2.2 | exact hS.2); rintro e W ⟨rfl, hX2⟩; have hS2 := hX2.s6)
            | (go_at_call 17; refine (carryB (w := w) (L := [(g5, sx, sy), (g4, sx, sy), (g3, mx, my), (g2, mx, my), (g1, a1, b1), (g0, a0, b0)]) (P1.out _) ?_).mono ?_; (first | exact hS2.2 | exact hS.2); rintro e W ⟨rfl, hX2⟩; have hS2 := hX2.s6)
            | (go_at_call 18; refine (carryB (w := w) (L := [(g5, sx, sy), (g4, sx, sy), (g3, mx, my), (g2, mx, my), (g1, a1, b1), (g0, a0, b0)]) (P2.out _) ?_).mono ?_; (first | exact hS2.2 | exact hS.2); rintro e W ⟨rfl, hX2⟩; have hS2 := hX2.s6)
            | (go_at_call 19; refine (carryB (w := w) (L := [(g5, sx, sy), (g4, sx, sy), (g3, mx, my), (g2, mx, my), (g1, a1, b1), (g0, a0, b0)]) (Q1.out _) ?_).mono ?_; (first | exact hS2.2 | exact hS.2); rintro e W ⟨rfl, hX2⟩; have hS2 := hX2.s6)
            | (go_at_call 20; refine (carryB (w := w) (L := [(g5, sx, sy), (g4, sx, sy), (g3, mx, my), (g2, mx, my), (g1, a1, b1), (g0, a0, b0)]) (Q2.out _) ?_).mono ?_; (first | exact hS2.2 | exact hS.2); rintro e W ⟨rfl, hX2⟩; have hS2 := hX2.s6)
            | (go_at_call 21; refine (carryB (w := w) (L := [(g5, sx, sy), (g4, sx, sy), (g3, mx, my), (g2, mx, my), (g1, a1, b1), (g0, a0, b0)]) (awake_any _) ?_).mono ?_; (first | exact hS2.2 | exact hS.2); rintro e W ⟨rfl, hX2⟩; have hS2 := hX2.s6))
  all_goals
    go_wp2
    go_ret
    exact ⟨rfl, hX2.2⟩

set_option maxRecDepth 100000 in
theorem lifted (os : Os) (started : os.Started) (H : Type) (enc : TypeId × Value → H) :
    ReturnsInHanded {} Try.checked os 3 .any (Rows.intervalExactSpec.pre6 enc Try.prog Try.f3 Rows.intervalExactRow.domain false) (Rows.intervalExactSpec.post enc Try.prog Try.f3 false true false false) := by
  refine returnsInHanded_of_change (C := Try.checked) own started (by kernel_rfl) Try.func3
    (ChangeSpec.witness6 (enc := enc) (C := Try.checked) false ⟨#[], #[.agg #[.int .i64 0, .int .i64 0], .agg #[.int .i64 0, .int .i64 0], .int .i64 0], []⟩ 8 (by kernel_rfl) (by kernel_rfl) (by kernel_rfl) (by kernel_rfl)) ?_
  intro W base args ds gs before hval0 hW hcnd _
  have hval : ∀ (j : Nat) t v, Try.f3.params[j]? = some t → args[j]? = some v → Value.okWide Try.prog W .any base t v := hval0
  have hW' := hW
  obtain ⟨p, q, hA0, hV, rfl, hfz, hnd⟩ := hW
  have hA : DataW.TrodAll enc Try.prog W 0 (fun _ => true) true Try.f3.params.toList args.toList ds p := hA0
  rw [Try.params3] at hA hval
  obtain ⟨v0, vs0, d0, ds0, p0, q0, hargs, rfl, rfl, h0, r0⟩ := trodAll_cons hA
  obtain ⟨v1, vs1, d1, ds1, p1, q1, rfl, rfl, rfl, h1, r1⟩ := trodAll_cons r0
  obtain ⟨v2, vs2, d2, ds2, p2, q2, rfl, rfl, rfl, h2, r2⟩ := trodAll_cons r1
  obtain ⟨rfl, rfl, rfl⟩ := trodAll_nil r2
  obtain rfl : args = #[v0, v1, v2] := by cases args; simp_all
  obtain ⟨rfl, rfl⟩ := trodVars_none hV
  have k0 := h0
  have lt0 : ∀ x ∈ p0, x.block < W.heap.size := by obtain ⟨m, hm⟩ := k0; exact DataW.trod_lt m _ _ _ hm
  obtain ⟨a0, b0, rfl, w0, u0⟩ := open_iv (hval 0 23 v0 rfl rfl) h0
  have k1 := h1
  have lt1 : ∀ x ∈ p1, x.block < W.heap.size := by obtain ⟨m, hm⟩ := k1; exact DataW.trod_lt m _ _ _ hm
  obtain ⟨a1, b1, rfl, w1, u1⟩ := open_iv (hval 1 23 v1 rfl rfl) h1
  obtain ⟨a2, rfl, rfl, rfl, w2⟩ := open_int Try.underlying3 (hval 2 3 v2 rfl rfl) h2
  clear hA0 hval0
  refine (walk a0 b0 a1 b1 a2 W w0 u0 w1 u1 w2).mono fun e W' ⟨he, bel⟩ => ?_
  subst he
  exact ⟨_, rfl, _, _, _, [], _, [], hW', trodAll_mk1 (shut_bool Try.underlying4 _), (trodAll_cons_mk (Below.trod laidOut (by kernel_rfl) (of_decide_eq_true (by kernel_rfl)) k0 bel lt0) (trodAll_cons_mk (Below.trod laidOut (by kernel_rfl) (of_decide_eq_true (by kernel_rfl)) k1 bel lt1) (trodAll_cons_mk (shut_int Try.underlying3 w2) trodAll_mk0))), rfl, bel.frame _, fun h => by cases h⟩

theorem over : Rows.intervalExactRow.holds Try.pinned (OpenSpec.ofChange Rows.intervalExactSpec) :=
  OpenClaim.holds_of_wide 3 Try.f3 rfl rfl rfl rfl rfl rfl rfl ⟨rfl, rfl, rfl, rfl, rfl⟩ rfl rfl rfl rfl rfl (by kernel_rfl) Try.func3 (by kernel_rfl)
    (of_decide_eq_true (by kernel_rfl)) (by unfold Func.isWrapper; first | (rw [if_pos (by decide +kernel)]; kernel_rfl) | (rw [if_neg (by decide +kernel)]; exact ⟨rfl, rfl⟩))
    (fun os started H enc _ => lifted os started H enc)

theorem proved : Rows.IntervalExactSaid := over
#print axioms proved
end Go.Proofs.Ytkbmaedofhiegaa.intervalExact
