/- Three boxes that a drawn region reads, beside calls that make memory. -/
import Derived.Test.YtkbmaedofhiegaaLive
import Derived.Deep.RegionHeld3
namespace Go.Proofs.Ytkbmaedofhiegaa
open Go.ChangeShapes Go.WideShapes Go.ChangeAt Go.RowKit

structure All3 (w : World) (g1 : Nat) (x1 y1 : Int) (g2 : Nat) (x2 y2 : Int) (g3 : Nat) (x3 y3 : Int) (W : World) : Prop where
  b1 : Live W g1 x1 y1
  b2 : Live W g2 x2 y2
  b3 : Live W g3 x3 y3
  bel : Below w.heap.size w W
theorem All3.keep {w : World} {g1 g2 g3 : Nat} {x1 y1 x2 y2 x3 y3 : Int} {W W' : World} (h : All3 w g1 x1 y1 g2 x2 y2 g3 x3 y3 W) (hb : Below W.heap.size W W') : All3 w g1 x1 y1 g2 x2 y2 g3 x3 y3 W' :=
  ⟨h.b1.keep hb, h.b2.keep hb, h.b3.keep hb, h.bel.trans (hb.mono h.bel.size)⟩
def Held3 (w : World) (g1 : Nat) (x1 y1 : Int) (g2 : Nat) (x2 y2 : Int) (g3 : Nat) (x3 y3 : Int) (W : World) : Prop :=
  W.cell? ⟨g1, 0, none⟩ = some (.int .i64 x1) ∧ W.cell? ⟨g1, 1, none⟩ = some (.int .i64 y1) ∧ W.cell? ⟨g2, 0, none⟩ = some (.int .i64 x2) ∧ W.cell? ⟨g2, 1, none⟩ = some (.int .i64 y2) ∧
  W.cell? ⟨g3, 0, none⟩ = some (.int .i64 x3) ∧ W.cell? ⟨g3, 1, none⟩ = some (.int .i64 y3) ∧ All3 w g1 x1 y1 g2 x2 y2 g3 x3 y3 W
theorem All3.held {w : World} {g1 g2 g3 : Nat} {x1 y1 x2 y2 x3 y3 : Int} {W : World} (h : All3 w g1 x1 y1 g2 x2 y2 g3 x3 y3 W) : Held3 w g1 x1 y1 g2 x2 y2 g3 x3 y3 W :=
  ⟨h.b1.lo, h.b1.hi, h.b2.lo, h.b2.hi, h.b3.lo, h.b3.hi, h⟩
theorem Held3.all {w : World} {g1 g2 g3 : Nat} {x1 y1 x2 y2 x3 y3 : Int} {W : World} (h : Held3 w g1 x1 y1 g2 x2 y2 g3 x3 y3 W) : All3 w g1 x1 y1 g2 x2 y2 g3 x3 y3 W := h.2.2.2.2.2.2
theorem carry3 {w : World} {g1 g2 g3 : Nat} {x1 y1 x2 y2 x3 y3 : Int} {W : World} {f : FuncId} {args : Array Value} {v : Value} (h : Calls Try.prog f args W fun e w' => e = .returned v ∧ Below W.heap.size W w')
    (ha : All3 w g1 x1 y1 g2 x2 y2 g3 x3 y3 W) : Calls Try.prog f args W fun e w' => e = .returned v ∧ Held3 w g1 x1 y1 g2 x2 y2 g3 x3 y3 w' :=
  h.mono fun _ _ ⟨he, hb⟩ => ⟨he, (ha.keep hb).held⟩

theorem stretch_neg {d p x y : Int} (h : stretchF d p = (x, y, true)) : stretchF (-d) p = (-y, -x, true) := by
  unfold stretchF at h ⊢
  split at h
  · simp at h
  · rename_i hn
    rw [if_neg (by omega)]
    by_cases h0 : 0 ≤ d
    · rw [if_pos h0] at h
      simp only [Prod.mk.injEq, and_true] at h
      by_cases h1 : 0 ≤ -d
      · obtain rfl : d = 0 := by omega
        rw [if_pos h1]
        obtain ⟨rfl, rfl⟩ := h
        simp [loF, hiF, mill]
      · rw [if_neg h1, Int.neg_neg, h.1, h.2]
    · rw [if_neg h0] at h
      simp only [Prod.mk.injEq, and_true] at h
      rw [if_pos (by omega), ← h.1, ← h.2, Int.neg_neg, Int.neg_neg]
theorem stretch_zero {d : Int} (h : ¬ (d < -1000000000000 ∨ 1000000000000 < d)) : stretchF d 0 = (d, d, true) := by
  unfold stretchF
  rw [if_neg (by omega)]
  split
  · unfold loF hiF mill
    refine Prod.ext ?_ (Prod.ext ?_ rfl) <;> simp <;> omega
  · unfold loF hiF mill
    refine Prod.ext ?_ (Prod.ext ?_ rfl) <;> simp <;> omega
theorem pick7 {a b c d e f g : Prop} (h : a ∧ b ∧ c ∧ d ∧ e ∧ f ∧ g) : g := h.2.2.2.2.2.2
end Go.Proofs.Ytkbmaedofhiegaa
