/- The examples of the chapter on intervals: awake returns true. -/
import Derived.Test.YtkbmaedofhiegaaStretch
import Derived.Deep.RegionHeld3
namespace Go.Proofs.Ytkbmaedofhiegaa
open Go.ChangeShapes Go.WideShapes Go.ChangeAt Go.RowKit
set_option maxRecDepth 100000

theorem meet_is {a b c d x y : Int} {z : Bool} (h : meetF a b c d = (x, y, z)) (W : World) : Calls Try.prog 9 #[.agg #[.int .i64 a, .int .i64 b], .agg #[.int .i64 c, .int .i64 d]] W fun e w' => e = .returned (.tuple #[.agg #[.int .i64 x, .int .i64 y], .bool z]) ∧ Below W.heap.size W w' := by
  have := meet_any a b c d W
  rw [h] at this
  exact this
theorem add_is {a b c d x y : Int} {z : Bool} (h : addF a b c d = (x, y, z)) (W : World) : Calls Try.prog 11 #[.agg #[.int .i64 a, .int .i64 b], .agg #[.int .i64 c, .int .i64 d]] W fun e w' => e = .returned (.tuple #[.agg #[.int .i64 x, .int .i64 y], .bool z]) ∧ Below W.heap.size W w' := by
  have := add_any a b c d W
  rw [h] at this
  exact this
theorem stretch_is {d p x y : Int} {z : Bool} (h : stretchF d p = (x, y, z)) (W : World) : Calls Try.prog 22 #[.int .i64 d, .int .i64 p] W fun e w' => e = .returned (.tuple #[.agg #[.int .i64 x, .int .i64 y], .bool z]) ∧ Below W.heap.size W w' := by
  have := stretch_any d p W
  rw [h] at this
  exact this
theorem valid_is {a b : Int} {z : Bool} (h : vld a b = z) (W : World) : Calls Try.prog 13 #[.agg #[.int .i64 a, .int .i64 b]] W fun e w' => e = .returned (.bool z) ∧ Below W.heap.size W w' := by
  have := valid_any a b W
  rw [h] at this
  exact this
theorem hull_is {a b c d x y : Int} (h : hullF a b c d = (x, y)) (W : World) : Calls Try.prog 15 #[.agg #[.int .i64 a, .int .i64 b], .agg #[.int .i64 c, .int .i64 d]] W fun e w' => e = .returned (.agg #[.int .i64 x, .int .i64 y]) ∧ Below W.heap.size W w' := by
  have := hull_any a b c d W
  rw [h] at this
  exact this
theorem before_is {a b c d : Int} {z : Bool} (h : beforeF a b c d = z) (W : World) : Calls Try.prog 17 #[.agg #[.int .i64 a, .int .i64 b], .agg #[.int .i64 c, .int .i64 d]] W fun e w' => e = .returned (.bool z) ∧ Below W.heap.size W w' := by
  have := before_any a b c d W
  rw [h] at this
  exact this
theorem within_is {a b n : Int} {z : Bool} (h : withinF a b n = z) (W : World) : Calls Try.prog 19 #[.agg #[.int .i64 a, .int .i64 b], .int .i64 n] W fun e w' => e = .returned (.bool z) ∧ Below W.heap.size W w' := by
  have := within_any a b n W
  rw [h] at this
  exact this

/-- a box that holds an interval -/
structure Live (W : World) (g : Nat) (x y : Int) : Prop where
  lt : g < W.heap.size
  lo : W.cell? ⟨g, 0, none⟩ = some (.int .i64 x)
  hi : W.cell? ⟨g, 1, none⟩ = some (.int .i64 y)
theorem Live.keep {W W' : World} {g : Nat} {x y : Int} (h : Live W g x y) (hb : Below W.heap.size W W') : Live W' g x y :=
  ⟨Nat.lt_of_lt_of_le h.lt hb.size, (hb.cell (p := ⟨g, 0, none⟩) h.lt).trans h.lo, (hb.cell (p := ⟨g, 1, none⟩) h.lt).trans h.hi⟩
theorem Live.alloc {W : World} {g : Nat} {x y : Int} (h : Live W g x y) (o : Obj) : Live (W.alloc o) g x y := h.keep (one_ o)
theorem live_new (W : World) (x y : Int) : Live (W.alloc (.cells #[.int .i64 x, .int .i64 y] 23)) W.heap.size x y :=
  ⟨by simp, by simp, by simp⟩

/-- the four boxes that the last expression reads, and that nothing of before has turned -/
structure All (w : World) (g1 g2 g3 g4 : Nat) (W : World) : Prop where
  b1 : Live W g1 3 5
  b2 : Live W g2 11 22
  b3 : Live W g3 999900 1000100
  b4 : Live W g4 (-2) 0
  bel : Below w.heap.size w W
theorem All.keep {w : World} {g1 g2 g3 g4 : Nat} {W W' : World} (h : All w g1 g2 g3 g4 W) (hb : Below W.heap.size W W') : All w g1 g2 g3 g4 W' :=
  ⟨h.b1.keep hb, h.b2.keep hb, h.b3.keep hb, h.b4.keep hb, h.bel.trans (hb.mono h.bel.size)⟩
/-- the same with the cells told -/
def Held (w : World) (g1 g2 g3 g4 : Nat) (W : World) : Prop :=
  W.cell? ⟨g1, 0, none⟩ = some (.int .i64 3) ∧ W.cell? ⟨g1, 1, none⟩ = some (.int .i64 5) ∧ W.cell? ⟨g2, 0, none⟩ = some (.int .i64 11) ∧ W.cell? ⟨g2, 1, none⟩ = some (.int .i64 22) ∧
  W.cell? ⟨g3, 0, none⟩ = some (.int .i64 999900) ∧ W.cell? ⟨g3, 1, none⟩ = some (.int .i64 1000100) ∧ W.cell? ⟨g4, 0, none⟩ = some (.int .i64 (-2)) ∧ W.cell? ⟨g4, 1, none⟩ = some (.int .i64 0) ∧ All w g1 g2 g3 g4 W
theorem All.held {w : World} {g1 g2 g3 g4 : Nat} {W : World} (h : All w g1 g2 g3 g4 W) : Held w g1 g2 g3 g4 W :=
  ⟨h.b1.lo, h.b1.hi, h.b2.lo, h.b2.hi, h.b3.lo, h.b3.hi, h.b4.lo, h.b4.hi, h⟩
theorem Held.all {w : World} {g1 g2 g3 g4 : Nat} {W : World} (h : Held w g1 g2 g3 g4 W) : All w g1 g2 g3 g4 W := h.2.2.2.2.2.2.2.2
theorem carry {w : World} {g1 g2 g3 g4 : Nat} {W : World} {f : FuncId} {args : Array Value} {v : Value} (h : Calls Try.prog f args W fun e w' => e = .returned v ∧ Below W.heap.size W w') (ha : All w g1 g2 g3 g4 W) :
    Calls Try.prog f args W fun e w' => e = .returned v ∧ Held w g1 g2 g3 g4 w' :=
  h.mono fun _ _ ⟨he, hb⟩ => ⟨he, (ha.keep hb).held⟩

set_option maxHeartbeats 6400000 in
theorem awake_any (w : World) : Calls Try.prog 21 #[] w fun e w' => e = .returned (.bool true) ∧ Below w.heap.size w w' := by
  go_enter Try.func21, Try.ntmps21
  go_wp2_with fail
  refine (of_any (0) (5) _).mono ?_
  rintro e W0 ⟨rfl, hb0⟩
  have hB0 := hb0
  go_wp2_with fail
  refine (of_any (3) (9) _).mono ?_
  rintro e W1 ⟨rfl, hb1⟩
  have hB1 : Below w.heap.size w W1 := by
    first
      | exact hB0.trans (hb1.mono hB0.size)
      | exact (hB0.alloc hB0.size _).trans (hb1.mono (hB0.alloc hB0.size _).size)
  clear hb1 hB0
  go_wp2_with fail
  refine (meet_is (a := 0) (b := 5) (c := 3) (d := 9) (x := 3) (y := 5) (z := true) (by decide +kernel) _).mono ?_
  rintro e W2 ⟨rfl, hb2⟩
  have hB2 : Below w.heap.size w W2 := by
    first
      | exact hB1.trans (hb2.mono hB1.size)
      | exact (hB1.alloc hB1.size _).trans (hb2.mono (hB1.alloc hB1.size _).size)
  clear hb2 hB1
  go_wp2_with fail
  refine (of_any (0) (5) _).mono ?_
  rintro e W3 ⟨rfl, hb3⟩
  have hB3 : Below w.heap.size w W3 := by
    first
      | exact hB2.trans (hb3.mono hB2.size)
      | exact (hB2.alloc hB2.size _).trans (hb3.mono (hB2.alloc hB2.size _).size)
  have L1 : Live W3 W2.heap.size (3) (5) := (live_new _ _ _).keep hb3
  clear hb3 hB2
  go_wp2_with fail
  refine (of_any (6) (9) _).mono ?_
  rintro e W4 ⟨rfl, hb4⟩
  have hB4 : Below w.heap.size w W4 := by
    first
      | exact hB3.trans (hb4.mono hB3.size)
      | exact (hB3.alloc hB3.size _).trans (hb4.mono (hB3.alloc hB3.size _).size)
  replace L1 : Live W4 W2.heap.size (3) (5) := by
    first
      | exact L1.keep hb4
      | exact (L1.alloc _).keep hb4
  clear hb4 hB3
  go_wp2_with fail
  refine (meet_is (a := 0) (b := 5) (c := 6) (d := 9) (x := 0) (y := 0) (z := false) (by decide +kernel) _).mono ?_
  rintro e W5 ⟨rfl, hb5⟩
  have hB5 : Below w.heap.size w W5 := by
    first
      | exact hB4.trans (hb5.mono hB4.size)
      | exact (hB4.alloc hB4.size _).trans (hb5.mono (hB4.alloc hB4.size _).size)
  replace L1 : Live W5 W2.heap.size (3) (5) := by
    first
      | exact L1.keep hb5
      | exact (L1.alloc _).keep hb5
  clear hb5 hB4
  go_wp2_with fail
  refine (of_any (1) (2) _).mono ?_
  rintro e W6 ⟨rfl, hb6⟩
  have hB6 : Below w.heap.size w W6 := by
    first
      | exact hB5.trans (hb6.mono hB5.size)
      | exact (hB5.alloc hB5.size _).trans (hb6.mono (hB5.alloc hB5.size _).size)
  replace L1 : Live W6 W2.heap.size (3) (5) := by
    first
      | exact L1.keep hb6
      | exact (L1.alloc _).keep hb6
  clear hb6 hB5
  go_wp2_with fail
  refine (of_any (10) (20) _).mono ?_
  rintro e W7 ⟨rfl, hb7⟩
  have hB7 : Below w.heap.size w W7 := by
    first
      | exact hB6.trans (hb7.mono hB6.size)
      | exact (hB6.alloc hB6.size _).trans (hb7.mono (hB6.alloc hB6.size _).size)
  replace L1 : Live W7 W2.heap.size (3) (5) := by
    first
      | exact L1.keep hb7
      | exact (L1.alloc _).keep hb7
  clear hb7 hB6
  go_wp2_with fail
  refine (add_is (a := 1) (b := 2) (c := 10) (d := 20) (x := 11) (y := 22) (z := true) (by decide +kernel) _).mono ?_
  rintro e W8 ⟨rfl, hb8⟩
  have hB8 : Below w.heap.size w W8 := by
    first
      | exact hB7.trans (hb8.mono hB7.size)
      | exact (hB7.alloc hB7.size _).trans (hb8.mono (hB7.alloc hB7.size _).size)
  replace L1 : Live W8 W2.heap.size (3) (5) := by
    first
      | exact L1.keep hb8
      | exact (L1.alloc _).keep hb8
  clear hb8 hB7
  go_wp2_with fail
  refine (of_any (0) (1000000000000000) _).mono ?_
  rintro e W9 ⟨rfl, hb9⟩
  have hB9 : Below w.heap.size w W9 := by
    first
      | exact hB8.trans (hb9.mono hB8.size)
      | exact (hB8.alloc hB8.size _).trans (hb9.mono (hB8.alloc hB8.size _).size)
  replace L1 : Live W9 W2.heap.size (3) (5) := by
    first
      | exact L1.keep hb9
      | exact (L1.alloc _).keep hb9
  have L3 : Live W9 W8.heap.size (11) (22) := (live_new _ _ _).keep hb9
  clear hb9 hB8
  go_wp2_with fail
  refine (of_any (1) (1) _).mono ?_
  rintro e W10 ⟨rfl, hb10⟩
  have hB10 : Below w.heap.size w W10 := by
    first
      | exact hB9.trans (hb10.mono hB9.size)
      | exact (hB9.alloc hB9.size _).trans (hb10.mono (hB9.alloc hB9.size _).size)
  replace L1 : Live W10 W2.heap.size (3) (5) := by
    first
      | exact L1.keep hb10
      | exact (L1.alloc _).keep hb10
  replace L3 : Live W10 W8.heap.size (11) (22) := by
    first
      | exact L3.keep hb10
      | exact (L3.alloc _).keep hb10
  clear hb10 hB9
  go_wp2_with fail
  refine (add_is (a := 0) (b := 1000000000000000) (c := 1) (d := 1) (x := 0) (y := 0) (z := false) (by decide +kernel) _).mono ?_
  rintro e W11 ⟨rfl, hb11⟩
  have hB11 : Below w.heap.size w W11 := by
    first
      | exact hB10.trans (hb11.mono hB10.size)
      | exact (hB10.alloc hB10.size _).trans (hb11.mono (hB10.alloc hB10.size _).size)
  replace L1 : Live W11 W2.heap.size (3) (5) := by
    first
      | exact L1.keep hb11
      | exact (L1.alloc _).keep hb11
  replace L3 : Live W11 W8.heap.size (11) (22) := by
    first
      | exact L3.keep hb11
      | exact (L3.alloc _).keep hb11
  clear hb11 hB10
  go_wp2_with fail
  refine (stretch_is (d := 1000000) (p := 100) (x := 999900) (y := 1000100) (z := true) (by decide +kernel) _).mono ?_
  rintro e W12 ⟨rfl, hb12⟩
  have hB12 : Below w.heap.size w W12 := by
    first
      | exact hB11.trans (hb12.mono hB11.size)
      | exact (hB11.alloc hB11.size _).trans (hb12.mono (hB11.alloc hB11.size _).size)
  replace L1 : Live W12 W2.heap.size (3) (5) := by
    first
      | exact L1.keep hb12
      | exact (L1.alloc _).keep hb12
  replace L3 : Live W12 W8.heap.size (11) (22) := by
    first
      | exact L3.keep hb12
      | exact (L3.alloc _).keep hb12
  clear hb12 hB11
  go_wp2_with fail
  refine (stretch_is (d := -1) (p := 100) (x := -2) (y := 0) (z := true) (by decide +kernel) _).mono ?_
  rintro e W13 ⟨rfl, hb13⟩
  have hB13 : Below w.heap.size w W13 := by
    first
      | exact hB12.trans (hb13.mono hB12.size)
      | exact (hB12.alloc hB12.size _).trans (hb13.mono (hB12.alloc hB12.size _).size)
  replace L1 : Live W13 W2.heap.size (3) (5) := by
    first
      | exact L1.keep hb13
      | exact (L1.alloc _).keep hb13
  replace L3 : Live W13 W8.heap.size (11) (22) := by
    first
      | exact L3.keep hb13
      | exact (L3.alloc _).keep hb13
  have L5 : Live W13 W12.heap.size (999900) (1000100) := (live_new _ _ _).keep hb13
  clear hb13 hB12
  go_wp2_with fail
  refine (stretch_is (d := 1000000000001) (p := 0) (x := 0) (y := 0) (z := false) (by decide +kernel) _).mono ?_
  rintro e W14 ⟨rfl, hb14⟩
  have hB14 : Below w.heap.size w W14 := by
    first
      | exact hB13.trans (hb14.mono hB13.size)
      | exact (hB13.alloc hB13.size _).trans (hb14.mono (hB13.alloc hB13.size _).size)
  replace L1 : Live W14 W2.heap.size (3) (5) := by
    first
      | exact L1.keep hb14
      | exact (L1.alloc _).keep hb14
  replace L3 : Live W14 W8.heap.size (11) (22) := by
    first
      | exact L3.keep hb14
      | exact (L3.alloc _).keep hb14
  replace L5 : Live W14 W12.heap.size (999900) (1000100) := by
    first
      | exact L5.keep hb14
      | exact (L5.alloc _).keep hb14
  have L6 : Live W14 W13.heap.size (-2) (0) := (live_new _ _ _).keep hb14
  clear hb14 hB13
  have k1a := L1.lo
  have k1b := L1.hi
  have k3a := L3.lo
  have k3b := L3.hi
  have k5a := L5.lo
  have k5b := L5.hi
  have k6a := L6.lo
  have k6b := L6.hi
  go_wp2_with fail
  have hall : All w W2.heap.size W8.heap.size W12.heap.size W13.heap.size W14 := ⟨L1, L3, L5, L6, hB14⟩
  have hall2 := (hall.keep (one_ (.cells #[.int .i64 0, .int .i64 0] 23))).keep (Below.refl _ _).drew
  have hS := hall2.held
  unfold Held at hS
  obtain ⟨s1, s2, s3, s4, s5, s6, s7, s8, s9⟩ := hS
  clear L1 L3 L5 L6 hB14 hall hall2
  dsimp only [List.append]
  go_region_held3 (fun w' => w'.cell? ⟨W2.heap.size, 0, none⟩ = some (.int .i64 3) ∧ w'.cell? ⟨W2.heap.size, 1, none⟩ = some (.int .i64 5) ∧ w'.cell? ⟨W8.heap.size, 0, none⟩ = some (.int .i64 11) ∧ w'.cell? ⟨W8.heap.size, 1, none⟩ = some (.int .i64 22) ∧ w'.cell? ⟨W12.heap.size, 0, none⟩ = some (.int .i64 999900) ∧ w'.cell? ⟨W12.heap.size, 1, none⟩ = some (.int .i64 1000100) ∧ w'.cell? ⟨W13.heap.size, 0, none⟩ = some (.int .i64 (-2)) ∧ w'.cell? ⟨W13.heap.size, 1, none⟩ = some (.int .i64 0) ∧ All w W2.heap.size W8.heap.size W12.heap.size W13.heap.size w')
    (first
    | exact hS
    | (refine ⟨?_, ?_, ?_, ?_, ?_, ?_, ?_, ?_, ?_⟩ <;> assumption)
    | go_keep)
    (first
    | (go_at_call 24; (refine (carry (w := w) (g1 := W2.heap.size) (g2 := W8.heap.size) (g3 := W12.heap.size) (g4 := W13.heap.size) (of_any _ _ _) ?_).mono ?_; assumption; rintro e W ⟨rfl, hS⟩; have hA := hS.all))
    | (go_at_call_of 13 (Value.agg #[Value.int IntKind.i64 3, Value.int IntKind.i64 3]); (refine (carry (w := w) (g1 := W2.heap.size) (g2 := W8.heap.size) (g3 := W12.heap.size) (g4 := W13.heap.size) (valid_is (a := 3) (b := 3) (z := true) (by decide +kernel) _) ?_).mono ?_; assumption; rintro e W ⟨rfl, hS⟩; have hA := hS.all))
    | (go_at_call 13; (refine (carry (w := w) (g1 := W2.heap.size) (g2 := W8.heap.size) (g3 := W12.heap.size) (g4 := W13.heap.size) (valid_is (a := 4) (b := 3) (z := false) (by decide +kernel) _) ?_).mono ?_; assumption; rintro e W ⟨rfl, hS⟩; have hA := hS.all))
    | (go_at_call_of 15 (Value.agg #[Value.int IntKind.i64 0, Value.int IntKind.i64 1]); (refine (carry (w := w) (g1 := W2.heap.size) (g2 := W8.heap.size) (g3 := W12.heap.size) (g4 := W13.heap.size) (hull_is (a := 0) (b := 1) (c := 8) (d := 9) (x := 0) (y := 9) (by decide +kernel) _) ?_).mono ?_; assumption; rintro e W ⟨rfl, hS⟩; have hA := hS.all))
    | (go_at_call 15; (refine (carry (w := w) (g1 := W2.heap.size) (g2 := W8.heap.size) (g3 := W12.heap.size) (g4 := W13.heap.size) (hull_is (a := 4) (b := 3) (c := 7) (d := 8) (x := 7) (y := 8) (by decide +kernel) _) ?_).mono ?_; assumption; rintro e W ⟨rfl, hS⟩; have hA := hS.all))
    | (go_at_call_of 17 (Value.agg #[Value.int IntKind.i64 3, Value.int IntKind.i64 4]); (refine (carry (w := w) (g1 := W2.heap.size) (g2 := W8.heap.size) (g3 := W12.heap.size) (g4 := W13.heap.size) (before_is (a := 0) (b := 2) (c := 3) (d := 4) (z := true) (by decide +kernel) _) ?_).mono ?_; assumption; rintro e W ⟨rfl, hS⟩; have hA := hS.all))
    | (go_at_call 17; (refine (carry (w := w) (g1 := W2.heap.size) (g2 := W8.heap.size) (g3 := W12.heap.size) (g4 := W13.heap.size) (before_is (a := 0) (b := 2) (c := 2) (d := 4) (z := false) (by decide +kernel) _) ?_).mono ?_; assumption; rintro e W ⟨rfl, hS⟩; have hA := hS.all))
    | (go_at_call_of 19 (Value.int IntKind.i64 6); (refine (carry (w := w) (g1 := W2.heap.size) (g2 := W8.heap.size) (g3 := W12.heap.size) (g4 := W13.heap.size) (within_is (a := 3) (b := 5) (n := 6) (z := false) (by decide +kernel) _) ?_).mono ?_; assumption; rintro e W ⟨rfl, hS⟩; have hA := hS.all))
    | (go_at_call 19; (refine (carry (w := w) (g1 := W2.heap.size) (g2 := W8.heap.size) (g3 := W12.heap.size) (g4 := W13.heap.size) (within_is (a := 3) (b := 5) (n := 5) (z := true) (by decide +kernel) _) ?_).mono ?_; assumption; rintro e W ⟨rfl, hS⟩; have hA := hS.all)))
  go_wp2
  go_ret
  exact ⟨rfl, (by assumption : All w W2.heap.size W8.heap.size W12.heap.size W13.heap.size _).bel⟩
end Go.Proofs.Ytkbmaedofhiegaa
