/- Boxes of two integers that live on over calls: a list of them. -/
import Derived.Test.YtkbmaedofhiegaaOpen
import Derived.Deep.RegionHeld
import Derived.BigQuiet
import Derived.WalkSmall
namespace Go.Proofs.Ytkbmaedofhiegaa
open Go.ChangeShapes Go.WideShapes Go.ChangeAt Go.RowKit
def Facts : List (Nat × Int × Int) → World → Prop
  | [], _ => True
  | (g, x, y) :: L, W => g < W.heap.size ∧ W.cell? ⟨g, 0, none⟩ = some (.int .i64 x) ∧ W.cell? ⟨g, 1, none⟩ = some (.int .i64 y) ∧ Facts L W
theorem Facts.keep {W W' : World} (hb : Below W.heap.size W W') : ∀ {L : List (Nat × Int × Int)}, Facts L W → Facts L W'
  | [], _ => trivial
  | (g, _, _) :: _, h => ⟨Nat.lt_of_lt_of_le h.1 hb.size, (hb.cell (p := ⟨g, 0, none⟩) h.1).trans h.2.1, (hb.cell (p := ⟨g, 1, none⟩) h.1).trans h.2.2.1, Facts.keep hb h.2.2.2⟩
def Boxes (w : World) (L : List (Nat × Int × Int)) (W : World) : Prop := Facts L W ∧ Below w.heap.size w W
theorem Boxes.keep {w : World} {L : List (Nat × Int × Int)} {W W' : World} (h : Boxes w L W) (hb : Below W.heap.size W W') : Boxes w L W' :=
  ⟨h.1.keep hb, h.2.trans (hb.mono h.2.size)⟩
theorem Boxes.push {w : World} {L : List (Nat × Int × Int)} {W : World} (h : Boxes w L W) (x y : Int) (t : TypeId) : Boxes w ((W.heap.size, x, y) :: L) (W.alloc (.cells #[.int .i64 x, .int .i64 y] t)) := by
  have hk := h.keep (one_ (w := W) (.cells #[.int .i64 x, .int .i64 y] t))
  refine ⟨⟨by simp, by simp, by simp, hk.1⟩, hk.2⟩
theorem Boxes.nil (w : World) : Boxes w [] w := ⟨trivial, Below.refl _ _⟩
theorem Boxes.drew {w : World} {L : List (Nat × Int × Int)} {W : World} (h : Boxes w L W) : Boxes w L W.drew := h.keep (Below.refl _ _).drew
theorem Boxes.drewN {w : World} {L : List (Nat × Int × Int)} {W : World} (h : Boxes w L W) (n : Nat) : Boxes w L (W.drewN n) := h.keep (below_drewN (Below.refl _ _) n)

theorem addF_comm (a b c d : Int) : addF c d a b = addF a b c d := by
  unfold addF
  rw [Int.add_comm c a, Int.add_comm d b]
  by_cases h1 : vld a b = true <;> by_cases h2 : vld c d = true <;> simp [h1, h2]
theorem addF_cases (a b c d : Int) : addF a b c d = (0, 0, false) ∨ (addF a b c d = (a + c, b + d, true) ∧ vld a b = true ∧ vld c d = true ∧ vld (a + c) (b + d) = true) := by
  unfold addF
  by_cases h : vld a b = true ∧ vld c d = true ∧ vld (a + c) (b + d) = true
  · rw [if_pos h]; exact .inr ⟨rfl, h⟩
  · rw [if_neg h]; exact .inl rfl
theorem meetF_ok {a b c d : Int} (h1 : vld a b = true) (h2 : vld c d = true) : (meetF a b c d).2.2 = !(beforeF a b c d || beforeF c d a b) := by
  have k1 := vld_range h1
  have k2 := vld_range h2
  unfold meetF beforeF
  rw [h1, h2]
  by_cases h : max a c ≤ min b d
  · rw [if_pos ⟨rfl, rfl, h⟩]; simp; omega
  · rw [if_neg (fun e => h e.2.2)]; simp; omega
theorem beforeF_false {a b c d : Int} (h : vld a b = false ∨ vld c d = false) : beforeF a b c d = false := by
  unfold beforeF; rcases h with h | h <;> rw [h] <;> simp
theorem valid_is' {a b : Int} {z : Bool} (h : vld a b = z) (W : World) : Calls Try.prog 13 #[.agg #[.int .i64 a, .int .i64 b]] W fun e w' => e = .returned (.bool z) ∧ Below W.heap.size W w' := by
  have := valid_any a b W
  rw [h] at this
  exact this
theorem carryB {w W : World} {L : List (Nat × Int × Int)} {f : FuncId} {args : Array Value} {v : Value} (h : Calls Try.prog f args W fun e w' => e = .returned v ∧ Below W.heap.size W w')
    (ha : Boxes w L W) : Calls Try.prog f args W fun e w' => e = .returned v ∧ Boxes w L w' :=
  h.mono fun _ _ ⟨he, hb⟩ => ⟨he, ha.keep hb⟩
theorem Boxes.s5 {w W : World} {g0 g1 g2 g3 g4 : Nat} {x0 y0 x1 y1 x2 y2 x3 y3 x4 y4 : Int} (h : Boxes w [(g0, x0, y0), (g1, x1, y1), (g2, x2, y2), (g3, x3, y3), (g4, x4, y4)] W) : (g0 < W.heap.size ∧ W.cell? ⟨g0, 0, none⟩ = some (.int .i64 x0) ∧ W.cell? ⟨g0, 1, none⟩ = some (.int .i64 y0) ∧ g1 < W.heap.size ∧ W.cell? ⟨g1, 0, none⟩ = some (.int .i64 x1) ∧ W.cell? ⟨g1, 1, none⟩ = some (.int .i64 y1) ∧ g2 < W.heap.size ∧ W.cell? ⟨g2, 0, none⟩ = some (.int .i64 x2) ∧ W.cell? ⟨g2, 1, none⟩ = some (.int .i64 y2) ∧ g3 < W.heap.size ∧ W.cell? ⟨g3, 0, none⟩ = some (.int .i64 x3) ∧ W.cell? ⟨g3, 1, none⟩ = some (.int .i64 y3) ∧ g4 < W.heap.size ∧ W.cell? ⟨g4, 0, none⟩ = some (.int .i64 x4) ∧ W.cell? ⟨g4, 1, none⟩ = some (.int .i64 y4)) ∧ Boxes w [(g0, x0, y0), (g1, x1, y1), (g2, x2, y2), (g3, x3, y3), (g4, x4, y4)] W :=
  ⟨by have hF := h.1; simpa only [Facts, and_true, and_assoc] using hF, h⟩
theorem Boxes.s6 {w W : World} {g0 g1 g2 g3 g4 g5 : Nat} {x0 y0 x1 y1 x2 y2 x3 y3 x4 y4 x5 y5 : Int} (h : Boxes w [(g0, x0, y0), (g1, x1, y1), (g2, x2, y2), (g3, x3, y3), (g4, x4, y4), (g5, x5, y5)] W) : (g0 < W.heap.size ∧ W.cell? ⟨g0, 0, none⟩ = some (.int .i64 x0) ∧ W.cell? ⟨g0, 1, none⟩ = some (.int .i64 y0) ∧ g1 < W.heap.size ∧ W.cell? ⟨g1, 0, none⟩ = some (.int .i64 x1) ∧ W.cell? ⟨g1, 1, none⟩ = some (.int .i64 y1) ∧ g2 < W.heap.size ∧ W.cell? ⟨g2, 0, none⟩ = some (.int .i64 x2) ∧ W.cell? ⟨g2, 1, none⟩ = some (.int .i64 y2) ∧ g3 < W.heap.size ∧ W.cell? ⟨g3, 0, none⟩ = some (.int .i64 x3) ∧ W.cell? ⟨g3, 1, none⟩ = some (.int .i64 y3) ∧ g4 < W.heap.size ∧ W.cell? ⟨g4, 0, none⟩ = some (.int .i64 x4) ∧ W.cell? ⟨g4, 1, none⟩ = some (.int .i64 y4) ∧ g5 < W.heap.size ∧ W.cell? ⟨g5, 0, none⟩ = some (.int .i64 x5) ∧ W.cell? ⟨g5, 1, none⟩ = some (.int .i64 y5)) ∧ Boxes w [(g0, x0, y0), (g1, x1, y1), (g2, x2, y2), (g3, x3, y3), (g4, x4, y4), (g5, x5, y5)] W :=
  ⟨by have hF := h.1; simpa only [Facts, and_true, and_assoc] using hF, h⟩
end Go.Proofs.Ytkbmaedofhiegaa
