/-
  'DiskChecks' (tracebook): the Go text of this law returns true at every input of its types, and writes nothing that was there.
-/
import Derived.Test.YtdchodjfgeglgaaOpen
import Derived.Deep.RegionHeld
namespace Go.Proofs.Ytdchodjfgeglgaa.diskChecks
open Go.ChangeShapes Go.WideShapes Go.ChangeAt Go.RowKit
set_option linter.unusedVariables false

set_option maxRecDepth 100000 in
set_option maxHeartbeats 1600000 in
theorem walk_a (s : Int) (A : Option Addr) (cap : Nat) (xs : List Int) (du le : Int) (dn : Bool) (kd m : Int) (B : Option Addr) (cb : Nat) (ys : List Int) (w : World) (hx : Sl w A cap xs) (hy : Sl w B cb ys) (h : 300 < xs.length) :
    Calls Try.prog 4 #[.agg #[.int .i64 s, .slice A xs.length cap, .int .i64 du, .int .i64 le, .bool dn], .agg #[.int .i64 kd, .int .i64 m, .slice B ys.length cb]] w fun e w' => e = .returned (.bool true) ∧ Below w.heap.size w w' := by
  go_enter Try.func4, Try.ntmps4
  go_wp2_with fail
  refine (awake_any _).mono ?_
  rintro e W ⟨rfl, hb⟩
  have b2 := ((Bx.new w _ _ _ _ _).alloc _).keep hb
  have b3 := (Ob.new1 w _ _ _ _).keep hb
  have hB := (two_ _ _).trans (hb.mono (two_ (w := w) _ _).size)
  clear hb
  have q2 := b2
  have q3 := b3
  obtain ⟨hz0, k0, k1, k2, k3, k4, kf⟩ := q2
  obtain ⟨hz1, j0, j1, j2⟩ := q3
  go_wp2_with fail
  refine (awake_any _).mono ?_
  rintro e W' ⟨rfl, hb⟩
  go_wp2
  go_ret
  exact ⟨rfl, below_step hB hb⟩

set_option maxRecDepth 100000 in
set_option maxHeartbeats 1600000 in
theorem walk_b (s : Int) (A : Option Addr) (cap : Nat) (xs : List Int) (du le : Int) (dn : Bool) (kd m : Int) (B : Option Addr) (cb : Nat) (ys : List Int) (w : World) (hx : Sl w A cap xs) (hy : Sl w B cb ys) (h : xs.length ≤ 300) (h2 : 100 < ys.length) :
    Calls Try.prog 4 #[.agg #[.int .i64 s, .slice A xs.length cap, .int .i64 du, .int .i64 le, .bool dn], .agg #[.int .i64 kd, .int .i64 m, .slice B ys.length cb]] w fun e w' => e = .returned (.bool true) ∧ Below w.heap.size w w' := by
  go_enter Try.func4, Try.ntmps4
  go_wp2_with fail
  refine (awake_any _).mono ?_
  rintro e W ⟨rfl, hb⟩
  have b2 := ((Bx.new w _ _ _ _ _).alloc _).keep hb
  have b3 := (Ob.new1 w _ _ _ _).keep hb
  have hB := (two_ _ _).trans (hb.mono (two_ (w := w) _ _).size)
  clear hb
  have q2 := b2
  have q3 := b3
  obtain ⟨hz0, k0, k1, k2, k3, k4, kf⟩ := q2
  obtain ⟨hz1, j0, j1, j2⟩ := q3
  go_wp2_with fail
  refine (awake_any _).mono ?_
  rintro e W' ⟨rfl, hb⟩
  go_wp2
  go_ret
  exact ⟨rfl, below_step hB hb⟩

structure Al (w : World) (g2 g5 g7 : Nat) (s : Int) (A : Option Addr) (cap : Nat) (xs : List Int) (du le : Int) (dn : Bool) (s2 : Int) (A5 A7 : Option Addr) (c5 c7 : Nat) (xs2 : List Int) (du2 le2 : Int) (dn2 : Bool) (W : World) : Prop where
  b2 : Bx W g2 (.int .i64 s) (.slice A xs.length cap) (.int .i64 du) (.int .i64 le) (.bool dn)
  b5 : Bx W g5 (.int .i64 s2) (.slice A5 xs2.length c5) (.int .i64 du2) (.int .i64 le2) (.bool dn2)
  b7 : Bx W g7 (.int .i64 s2) (.slice A7 xs2.length c7) (.int .i64 du2) (.int .i64 le2) (.bool dn2)
  s5 : Sl W A5 c5 xs2
  s7 : Sl W A7 c7 xs2
  bel : Below w.heap.size w W
theorem Al.keep {w : World} {g2 g5 g7 : Nat} {s : Int} {A : Option Addr} {cap : Nat} {xs : List Int} {du le : Int} {dn : Bool} {s2 : Int} {A5 A7 : Option Addr} {c5 c7 : Nat} {xs2 : List Int} {du2 le2 : Int} {dn2 : Bool} {W W' : World} (h : Al w g2 g5 g7 s A cap xs du le dn s2 A5 A7 c5 c7 xs2 du2 le2 dn2 W) (hb : Below W.heap.size W W') : Al w g2 g5 g7 s A cap xs du le dn s2 A5 A7 c5 c7 xs2 du2 le2 dn2 W' :=
  ⟨h.b2.keep hb, h.b5.keep hb, h.b7.keep hb, h.s5.keep hb, h.s7.keep hb, below_step h.bel hb⟩
theorem Al.s {w : World} {g2 g5 g7 : Nat} {s : Int} {A : Option Addr} {cap : Nat} {xs : List Int} {du le : Int} {dn : Bool} {s2 : Int} {A5 A7 : Option Addr} {c5 c7 : Nat} {xs2 : List Int} {du2 le2 : Int} {dn2 : Bool} {W : World} (h : Al w g2 g5 g7 s A cap xs du le dn s2 A5 A7 c5 c7 xs2 du2 le2 dn2 W) : (W.cell? ⟨g2, 0, none⟩ = some (.int .i64 s) ∧ W.cell? ⟨g2, 1, none⟩ = some (.slice A xs.length cap) ∧ W.cell? ⟨g2, 2, none⟩ = some (.int .i64 du) ∧ W.cell? ⟨g2, 3, none⟩ = some (.int .i64 le) ∧ W.cell? ⟨g2, 4, none⟩ = some (.bool dn) ∧ W.cell? ⟨g5, 0, none⟩ = some (.int .i64 s2) ∧ W.cell? ⟨g5, 1, none⟩ = some (.slice A5 xs2.length c5) ∧ W.cell? ⟨g5, 2, none⟩ = some (.int .i64 du2) ∧ W.cell? ⟨g5, 3, none⟩ = some (.int .i64 le2) ∧ W.cell? ⟨g5, 4, none⟩ = some (.bool dn2) ∧ W.cell? ⟨g7, 0, none⟩ = some (.int .i64 s2) ∧ W.cell? ⟨g7, 1, none⟩ = some (.slice A7 xs2.length c7) ∧ W.cell? ⟨g7, 2, none⟩ = some (.int .i64 du2) ∧ W.cell? ⟨g7, 3, none⟩ = some (.int .i64 le2) ∧ W.cell? ⟨g7, 4, none⟩ = some (.bool dn2)) ∧ Al w g2 g5 g7 s A cap xs du le dn s2 A5 A7 c5 c7 xs2 du2 le2 dn2 W :=
  ⟨⟨h.b2.c0, h.b2.c1, h.b2.c2, h.b2.c3, h.b2.c4, h.b5.c0, h.b5.c1, h.b5.c2, h.b5.c3, h.b5.c4, h.b7.c0, h.b7.c1, h.b7.c2, h.b7.c3, h.b7.c4⟩, h⟩
theorem carry (w : World) (g2 g5 g7 : Nat) (s : Int) (A : Option Addr) (cap : Nat) (xs : List Int) (du le : Int) (dn : Bool) (s2 : Int) (A5 A7 : Option Addr) (c5 c7 : Nat) (xs2 : List Int) (du2 le2 : Int) (dn2 : Bool) (W : World) {f : FuncId} {args : Array Value} {v : Value} (h : Calls Try.prog f args W fun e w' => e = .returned v ∧ Below W.heap.size W w') (ha : Al w g2 g5 g7 s A cap xs du le dn s2 A5 A7 c5 c7 xs2 du2 le2 dn2 W) :
    Calls Try.prog f args W fun e w' => e = .returned v ∧ ((w'.cell? ⟨g2, 0, none⟩ = some (.int .i64 s) ∧ w'.cell? ⟨g2, 1, none⟩ = some (.slice A xs.length cap) ∧ w'.cell? ⟨g2, 2, none⟩ = some (.int .i64 du) ∧ w'.cell? ⟨g2, 3, none⟩ = some (.int .i64 le) ∧ w'.cell? ⟨g2, 4, none⟩ = some (.bool dn) ∧ w'.cell? ⟨g5, 0, none⟩ = some (.int .i64 s2) ∧ w'.cell? ⟨g5, 1, none⟩ = some (.slice A5 xs2.length c5) ∧ w'.cell? ⟨g5, 2, none⟩ = some (.int .i64 du2) ∧ w'.cell? ⟨g5, 3, none⟩ = some (.int .i64 le2) ∧ w'.cell? ⟨g5, 4, none⟩ = some (.bool dn2) ∧ w'.cell? ⟨g7, 0, none⟩ = some (.int .i64 s2) ∧ w'.cell? ⟨g7, 1, none⟩ = some (.slice A7 xs2.length c7) ∧ w'.cell? ⟨g7, 2, none⟩ = some (.int .i64 du2) ∧ w'.cell? ⟨g7, 3, none⟩ = some (.int .i64 le2) ∧ w'.cell? ⟨g7, 4, none⟩ = some (.bool dn2)) ∧ Al w g2 g5 g7 s A cap xs du le dn s2 A5 A7 c5 c7 xs2 du2 le2 dn2 w') :=
  h.mono fun _ w' ⟨he, hb⟩ => ⟨he, (ha.keep hb).s⟩

set_option maxRecDepth 100000 in
set_option maxHeartbeats 3200000 in
theorem walk_c (s : Int) (A : Option Addr) (cap : Nat) (xs : List Int) (du le : Int) (dn : Bool) (kd m : Int) (B : Option Addr) (cb : Nat) (ys : List Int) (w : World) (hx : Sl w A cap xs) (hy : Sl w B cb ys) (h : xs.length ≤ 300) (h2 : ys.length ≤ 100) (v : Int) (hc1 : ∀ W : World, Calls Try.prog 15 #[.agg #[.int .i64 s, .slice A xs.length cap, .int .i64 du, .int .i64 le, .bool dn]] W fun e w' => e = .returned (.int .i64 v) ∧ Below W.heap.size W w') (hc2 : ∀ W : World, Calls Try.prog 16 #[.agg #[.int .i64 s, .slice A xs.length cap, .int .i64 du, .int .i64 le, .bool dn]] W fun e w' => e = .returned (.int .i64 v) ∧ Below W.heap.size W w') :
    Calls Try.prog 4 #[.agg #[.int .i64 s, .slice A xs.length cap, .int .i64 du, .int .i64 le, .bool dn], .agg #[.int .i64 kd, .int .i64 m, .slice B ys.length cb]] w fun e w' => e = .returned (.bool true) ∧ Below w.heap.size w w' := by
  have C1 := Lib.hid hc1
  have C2 := Lib.hid hc2
  clear hc1 hc2
  have G1 := Lib.hid (fun (W : World) (h : Sl W A cap xs) (h2 : Sl W B cb ys) => act_gives ⟨s, xs, du, le, dn⟩ A cap kd m B cb ys W h h2)
  have G2 := Lib.hid (fun (W : World) (h : Sl W A cap xs) (h3 : Sl W B cb ys) => exp_gives ⟨s, xs, du, le, dn⟩ A cap kd m B cb ys W h h3 (by omega))
  generalize actF ⟨s, xs, du, le, dn⟩ kd m ys = r at G1 G2
  obtain ⟨⟨s2, xs2, du2, le2, dn2⟩, x⟩ := r
  go_enter Try.func4, Try.ntmps4
  go_wp2_with fail
  refine (awake_any _).mono ?_
  rintro e W ⟨rfl, hb⟩
  have b2 := ((Bx.new w _ _ _ _ _).alloc _).keep hb
  have b3 := (Ob.new1 w _ _ _ _).keep hb
  have hB := (two_ _ _).trans (hb.mono (two_ (w := w) _ _).size)
  clear hb
  have q2 := b2
  have q3 := b3
  obtain ⟨hz0, k0, k1, k2, k3, k4, kf⟩ := q2
  obtain ⟨hz1, j0, j1, j2⟩ := q3
  go_wp2_with fail
  refine (G1.out _ (hx.keep hB) (hy.keep hB)).mono ?_
  rintro e W3 ⟨A5, c5, rfl, hS5, -, hb⟩
  dsimp only [dval] at hS5 ⊢
  clear hz0 hz1 k0 k1 k2 k3 k4 kf j0 j1 j2
  replace b2 := b2.keep hb
  replace b3 := b3.keep hb
  replace hB := below_step hB hb
  clear hb
  have q2 := b2
  have q3 := b3
  obtain ⟨hz0, k0, k1, k2, k3, k4, kf⟩ := q2
  obtain ⟨hz1, j0, j1, j2⟩ := q3
  go_wp2_with fail
  have b5 := Bx.new W3 (.int .i64 s2) (.slice A5 xs2.length c5) (.int .i64 du2) (.int .i64 le2) (.bool dn2)
  refine (G2.out _ ((hx.keep hB).alloc _) ((hy.keep hB).alloc _)).mono ?_
  rintro e W4 ⟨A7, c7, rfl, hS7, -, hb⟩
  dsimp only [dval] at hS7 ⊢
  clear hz0 hz1 k0 k1 k2 k3 k4 kf j0 j1 j2
  replace b2 := (b2.alloc _).keep hb
  replace b5 := b5.keep hb
  replace hB := below_step (hB.alloc hB.size _) hb
  replace hS5 := (hS5.alloc _).keep hb
  clear hb b3
  go_upto_region 5 with fail
  have b7 := Bx.new W4 (.int .i64 s2) (.slice A7 xs2.length c7) (.int .i64 du2) (.int .i64 le2) (.bool dn2)
  replace b2 := b2.alloc (.cells #[.int .i64 s2, .slice A7 xs2.length c7, .int .i64 du2, .int .i64 le2, .bool dn2] 27)
  replace b5 := b5.alloc (.cells #[.int .i64 s2, .slice A7 xs2.length c7, .int .i64 du2, .int .i64 le2, .bool dn2] 27)
  replace hS5 := hS5.alloc (.cells #[.int .i64 s2, .slice A7 xs2.length c7, .int .i64 du2, .int .i64 le2, .bool dn2] 27)
  replace hS7 := hS7.alloc (.cells #[.int .i64 s2, .slice A7 xs2.length c7, .int .i64 du2, .int .i64 le2, .bool dn2] 27)
  replace hB := hB.alloc hB.size (.cells #[.int .i64 s2, .slice A7 xs2.length c7, .int .i64 du2, .int .i64 le2, .bool dn2] 27)
  have hA : Al w w.heap.size W3.heap.size W4.heap.size s A cap xs du le dn s2 A5 A7 c5 c7 xs2 du2 le2 dn2 _ := ⟨b2, b5, b7, hS5, hS7, hB⟩
  clear b2 b5 b7 hS5 hS7 hB
  generalize W4.alloc (.cells #[.int .i64 s2, .slice A7 xs2.length c7, .int .i64 du2, .int .i64 le2, .bool dn2] 27) = W5 at hA ⊢
  generalize W4.heap.size = g7 at hA ⊢
  generalize W3.heap.size = g5 at hA ⊢
  have hgo : ∃ g2, g2 = w.heap.size := ⟨_, rfl⟩
  obtain ⟨g2, hg2⟩ := hgo
  rw [← hg2] at hA ⊢
  have HG := Lib.hid hg2
  clear hg2
  have hS := (hA.keep (Below.refl _ _).drew).s
  clear hA
  have T := Lib.hid (fun (W : World) (h : (W.cell? ⟨g2, 0, none⟩ = some (.int .i64 s) ∧ W.cell? ⟨g2, 1, none⟩ = some (.slice A xs.length cap) ∧ W.cell? ⟨g2, 2, none⟩ = some (.int .i64 du) ∧ W.cell? ⟨g2, 3, none⟩ = some (.int .i64 le) ∧ W.cell? ⟨g2, 4, none⟩ = some (.bool dn) ∧ W.cell? ⟨g5, 0, none⟩ = some (.int .i64 s2) ∧ W.cell? ⟨g5, 1, none⟩ = some (.slice A5 xs2.length c5) ∧ W.cell? ⟨g5, 2, none⟩ = some (.int .i64 du2) ∧ W.cell? ⟨g5, 3, none⟩ = some (.int .i64 le2) ∧ W.cell? ⟨g5, 4, none⟩ = some (.bool dn2) ∧ W.cell? ⟨g7, 0, none⟩ = some (.int .i64 s2) ∧ W.cell? ⟨g7, 1, none⟩ = some (.slice A7 xs2.length c7) ∧ W.cell? ⟨g7, 2, none⟩ = some (.int .i64 du2) ∧ W.cell? ⟨g7, 3, none⟩ = some (.int .i64 le2) ∧ W.cell? ⟨g7, 4, none⟩ = some (.bool dn2)) ∧ Al w g2 g5 g7 s A cap xs du le dn s2 A5 A7 c5 c7 xs2 du2 le2 dn2 W) => same_eq s2 xs2 du2 le2 dn2 A5 A7 c5 c7 W h.2.s5 h.2.s7)
  go_region_held (fun W => (W.cell? ⟨g2, 0, none⟩ = some (.int .i64 s) ∧ W.cell? ⟨g2, 1, none⟩ = some (.slice A xs.length cap) ∧ W.cell? ⟨g2, 2, none⟩ = some (.int .i64 du) ∧ W.cell? ⟨g2, 3, none⟩ = some (.int .i64 le) ∧ W.cell? ⟨g2, 4, none⟩ = some (.bool dn) ∧ W.cell? ⟨g5, 0, none⟩ = some (.int .i64 s2) ∧ W.cell? ⟨g5, 1, none⟩ = some (.slice A5 xs2.length c5) ∧ W.cell? ⟨g5, 2, none⟩ = some (.int .i64 du2) ∧ W.cell? ⟨g5, 3, none⟩ = some (.int .i64 le2) ∧ W.cell? ⟨g5, 4, none⟩ = some (.bool dn2) ∧ W.cell? ⟨g7, 0, none⟩ = some (.int .i64 s2) ∧ W.cell? ⟨g7, 1, none⟩ = some (.slice A7 xs2.length c7) ∧ W.cell? ⟨g7, 2, none⟩ = some (.int .i64 du2) ∧ W.cell? ⟨g7, 3, none⟩ = some (.int .i64 le2) ∧ W.cell? ⟨g7, 4, none⟩ = some (.bool dn2)) ∧ Al w g2 g5 g7 s A cap xs du le dn s2 A5 A7 c5 c7 xs2 du2 le2 dn2 W)
    (first | with_reducible exact hS2 | with_reducible exact hS)
    (first
      | (go_at_call 15; refine (carry w g2 g5 g7 s A cap xs du le dn s2 A5 A7 c5 c7 xs2 du2 le2 dn2 _ (C1.out _) ?_).mono ?_; (first | exact hS2.2 | exact hS.2); rintro e W ⟨rfl, hS2⟩)
      | (go_at_call 16; refine (carry w g2 g5 g7 s A cap xs du le dn s2 A5 A7 c5 c7 xs2 du2 le2 dn2 _ (C2.out _) ?_).mono ?_; (first | exact hS2.2 | exact hS.2); rintro e W ⟨rfl, hS2⟩)
      | (go_at_call 12; refine (carry w g2 g5 g7 s A cap xs du le dn s2 A5 A7 c5 c7 xs2 du2 le2 dn2 _ (T.out _ (by first | exact hS2 | exact hS)) ?_).mono ?_; (first | exact hS2.2 | exact hS.2); rintro e W ⟨rfl, hS2⟩))
  all_goals
    go_wp2
    go_ret
    rw [HG.out] at hS2
    exact ⟨rfl, hS2.2.bel⟩

theorem walk (s : Int) (A : Option Addr) (cap : Nat) (xs : List Int) (du le : Int) (dn : Bool) (kd m : Int) (B : Option Addr) (cb : Nat) (ys : List Int) (w : World) (hx : Sl w A cap xs) (hy : Sl w B cb ys) :
    Calls Try.prog 4 #[.agg #[.int .i64 s, .slice A xs.length cap, .int .i64 du, .int .i64 le, .bool dn], .agg #[.int .i64 kd, .int .i64 m, .slice B ys.length cb]] w fun e w' => e = .returned (.bool true) ∧ Below w.heap.size w w' := by
  by_cases h : xs.length ≤ 300
  · by_cases h2 : ys.length ≤ 100
    · cases ho : okB s xs.length du le
      · exact walk_c s A cap xs du le dn kd m B cb ys w hx hy h h2 2 (fun W => check_bad s A xs.length cap du le dn W ho) (fun W => rcheck_bad s A xs.length cap du le dn W ho)
      · exact walk_c s A cap xs du le dn kd m B cb ys w hx hy h h2 0 (fun W => check_ok s A xs.length cap du le dn W ho) (fun W => rcheck_ok s A xs.length cap du le dn W ho)
    · exact walk_b s A cap xs du le dn kd m B cb ys w hx hy h (by omega)
  · exact walk_a s A cap xs du le dn kd m B cb ys w hx hy (by omega)

set_option maxRecDepth 100000 in
theorem lifted (os : Os) (started : os.Started) (H : Type) (enc : TypeId × Value → H) :
    ReturnsInHanded {} Try.checked os 4 .any (Rows.diskChecksSpec.pre6 enc Try.prog Try.f4 Rows.diskChecksRow.domain false) (Rows.diskChecksSpec.post enc Try.prog Try.f4 false true false false) := by
  refine returnsInHanded_of_change (C := Try.checked) own started (by kernel_rfl) Try.func4
    (ChangeSpec.witness6 (enc := enc) (C := Try.checked) false ⟨#[], #[.agg #[.int .i64 0, .slice none 0 0, .int .i64 0, .int .i64 0, .bool false], .agg #[.int .i64 0, .int .i64 0, .slice none 0 0]], []⟩ 8 (by kernel_rfl) (by kernel_rfl) (by kernel_rfl) (by kernel_rfl)) ?_
  intro W base args ds gs before hval0 hW hcnd _
  have hval : ∀ (j : Nat) t v, Try.f4.params[j]? = some t → args[j]? = some v → Value.okWide Try.prog W .any base t v := hval0
  have hW' := hW
  obtain ⟨p, q, hA0, hV, rfl, hfz, hnd⟩ := hW
  have hA : DataW.TrodAll enc Try.prog W 0 (fun _ => true) true Try.f4.params.toList args.toList ds p := hA0
  rw [Try.params4] at hA hval
  obtain ⟨v0, vs0, d0, ds0, p0, q0, hargs, rfl, rfl, h0, r0⟩ := trodAll_cons hA
  obtain ⟨v1, vs1, d1, ds1, p1, q1, rfl, rfl, rfl, h1, r1⟩ := trodAll_cons r0
  obtain ⟨rfl, rfl, rfl⟩ := trodAll_nil r1
  obtain rfl : args = #[v0, v1] := by cases args; simp_all
  obtain ⟨rfl, rfl⟩ := trodVars_none hV
  have k0 := h0
  have lt0 : ∀ x ∈ p0, x.block < W.heap.size := by obtain ⟨m, hm⟩ := k0; exact DataW.trod_lt m _ _ _ hm
  obtain ⟨s0, A0, cap0, xs0, du0, le0, dn0, rfl, hx0, ws0, wd0, wl0⟩ := open_disk (hval 0 27 v0 rfl rfl) h0
  have k1 := h1
  have lt1 : ∀ x ∈ p1, x.block < W.heap.size := by obtain ⟨m, hm⟩ := k1; exact DataW.trod_lt m _ _ _ hm
  obtain ⟨kd1, m1, B1, cb1, ys1, rfl, hy1, wk1, wm1⟩ := open_op (hval 1 34 v1 rfl rfl) h1
  clear hA0 hval0
  refine (walk s0 A0 cap0 xs0 du0 le0 dn0 kd1 m1 B1 cb1 ys1 W hx0 hy1).mono fun e W' ⟨he, bel⟩ => ?_
  subst he
  exact ⟨_, rfl, _, _, _, [], _, [], hW', trodAll_mk1 (shut_bool Try.underlying4 _), (trodAll_cons_mk (Below.trod laidOut (by kernel_rfl) (of_decide_eq_true (by kernel_rfl)) k0 bel lt0) (trodAll_cons_mk (Below.trod laidOut (by kernel_rfl) (of_decide_eq_true (by kernel_rfl)) k1 bel lt1) trodAll_mk0)), rfl, bel.frame _, fun h => by cases h⟩

theorem over : Rows.diskChecksRow.holds Try.pinned (OpenSpec.ofChange Rows.diskChecksSpec) :=
  OpenClaim.holds_of_wide 4 Try.f4 rfl rfl rfl rfl rfl rfl rfl ⟨rfl, rfl, rfl, rfl, rfl⟩ rfl rfl rfl rfl rfl (by kernel_rfl) Try.func4 (by kernel_rfl)
    (of_decide_eq_true (by kernel_rfl)) (by unfold Func.isWrapper; first | (rw [if_pos (by decide +kernel)]; kernel_rfl) | (rw [if_neg (by decide +kernel)]; exact ⟨rfl, rfl⟩))
    (fun os started H enc _ => lifted os started H enc)

theorem proved : Rows.DiskChecksSaid := over
#print axioms proved
end Go.Proofs.Ytdchodjfgeglgaa.diskChecks
