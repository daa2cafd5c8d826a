/- The examples of the chapter: awake returns true. And one contract for any operation. -/
import Derived.Test.YtdchodjfgeglgaaAct
namespace Go.Proofs.Ytdchodjfgeglgaa
open Go.ChangeShapes Go.WideShapes Go.ChangeAt Go.RowKit

theorem act_gives (d : Dk) (A : Option Addr) (cap : Nat) (kd m : Int) (B : Option Addr) (cb : Nat) (ys : List Int) (w : World) (hx : Sl w A cap d.data) (hy : Sl w B cb ys) :
    Calls Try.prog 13 #[dval d A cap, .agg #[.int .i64 kd, .int .i64 m, .slice B ys.length cb]] w (GivesD w A d.data (actF d kd m ys)) := by
  obtain ⟨s, xs, du, le, dn⟩ := d
  by_cases h3 : kd = 3
  · subst h3; exact act_sync3 s A cap xs du le dn m B cb ys w hx
  by_cases h4 : kd = 4
  · subst h4; exact act_sync4 s A cap xs du le dn m B cb ys w hx
  by_cases h5 : kd = 5
  · subst h5; exact act_trunc s A cap xs du le dn m B cb ys w hx
  by_cases h6 : kd = 6
  · subst h6; exact act_arm s A cap xs du le dn m B cb ys w hx
  by_cases h7 : kd = 7
  · subst h7; exact act_crash s A cap xs du le dn m B cb ys w hx
  have e : actF ⟨s, xs, du, le, dn⟩ kd m ys = appF ⟨s, xs, du, le, dn⟩ ys := by
    unfold actF
    rw [if_neg (by omega), if_neg h5, if_neg h6, if_neg h7]
  rw [e]
  exact act_append s A cap xs du le dn kd m B cb ys w hx hy (by simpa using h3) (by simpa using h4) (by simpa using h5) (by simpa using h6) (by simpa using h7)

theorem exp_gives (d : Dk) (A : Option Addr) (cap : Nat) (kd m : Int) (B : Option Addr) (cb : Nat) (ys : List Int) (w : World) (hx : Sl w A cap d.data) (hy : Sl w B cb ys) (hmm : ys.length ≤ 1000000) :
    Calls Try.prog 14 #[dval d A cap, .agg #[.int .i64 kd, .int .i64 m, .slice B ys.length cb]] w (GivesD w A d.data (actF d kd m ys)) := by
  obtain ⟨s, xs, du, le, dn⟩ := d
  by_cases h3 : kd = 3
  · subst h3; exact exp_sync3 s A cap xs du le dn m B cb ys w hx
  by_cases h4 : kd = 4
  · subst h4; exact exp_sync4 s A cap xs du le dn m B cb ys w hx
  by_cases h5 : kd = 5
  · subst h5; exact exp_trunc s A cap xs du le dn m B cb ys w hx
  by_cases h6 : kd = 6
  · subst h6; exact exp_arm s A cap xs du le dn m B cb ys w hx
  by_cases h7 : kd = 7
  · subst h7; exact exp_crash s A cap xs du le dn m B cb ys w hx
  have e : actF ⟨s, xs, du, le, dn⟩ kd m ys = appF ⟨s, xs, du, le, dn⟩ ys := by
    unfold actF
    rw [if_neg (by omega), if_neg h5, if_neg h6, if_neg h7]
  rw [e]
  exact exp_append s A cap xs du le dn kd m B cb ys w hx hy hmm (by simpa using h3) (by simpa using h4) (by simpa using h5) (by simpa using h6) (by simpa using h7)

theorem Sl.lit5 (W : World) : Sl (W.alloc (.cells #[.int .u8 1, .int .u8 2, .int .u8 3, .int .u8 4, .int .u8 5] 5)) (some ⟨W.heap.size, 0, none⟩) 5 [1, 2, 3, 4, 5] :=
  Sl.new W [1, 2, 3, 4, 5] (by intro z hz; simp at hz; omega) #[] 5 (by decide) (by decide)
theorem str_one : strOfNums [1] = ⟨#[1]⟩ := rfl

set_option maxRecDepth 100000 in
set_option maxHeartbeats 6400000 in
theorem awake_any (w : World) : Calls Try.prog 8 #[] w fun e w' => e = .returned (.bool true) ∧ Below w.heap.size w w' := by
  have r1 : newF 10 = (⟨10, [], 0, -1, false⟩, 0) := by kernel_rfl
  have r2 : armF ⟨10, [], 0, -1, false⟩ 3 = (⟨10, [], 0, 3, false⟩, 0) := by kernel_rfl
  have r3 : appF ⟨10, [], 0, 3, false⟩ [1, 2, 3, 4, 5] = (⟨10, [1, 2, 3], 0, 0, true⟩, 19) := by kernel_rfl
  have r4 : crashF ⟨10, [1, 2, 3], 0, 0, true⟩ 1 = ⟨10, [1], 1, -1, false⟩ := by kernel_rfl
  have r5 : armF ⟨10, [1], 1, -1, false⟩ 0 = (⟨10, [1], 1, 0, false⟩, 0) := by kernel_rfl
  have r6 : appF ⟨10, [1], 1, 0, false⟩ [] = (⟨10, [1], 1, 0, false⟩, 0) := by kernel_rfl
  have r7 : syncF ⟨10, [1], 1, 0, false⟩ = (⟨10, [1], 1, 0, true⟩, 19) := by kernel_rfl
  have R1 := Lib.hid r1
  have R2 := Lib.hid r2
  have R3 := Lib.hid r3
  have R4 := Lib.hid r4
  have R5 := Lib.hid r5
  have R6 := Lib.hid r6
  have R7 := Lib.hid r7
  clear r1 r2 r3 r4 r5 r6 r7
  go_enter Try.func8, Try.ntmps8
  go_wp2_with fail
  refine (new_gives 10 _ none []).mono ?_
  rw [R1.out]
  rintro e W ⟨A1, c1, rfl, hS1, -, hb⟩
  dsimp only [dval, List.length_cons, List.length_nil, Nat.reduceAdd] at hS1 ⊢
  have hB := hb
  clear hb
  go_upto_region 2 with fail
  have hg1 : w.heap.size ≤ W.heap.size := hB.size
  have b1 := Bx.new W (.int .i64 10) (.slice A1 0 c1) (.int .i64 0) (.int .i64 (-1)) (.bool false)
  have ap11 := hS1.apart (Nat.le_refl _)
  replace hS1 := hS1.alloc (.cells #[.int .i64 10, .slice A1 0 c1, .int .i64 0, .int .i64 (-1), .bool false] 27)
  replace hB := hB.alloc hB.size (.cells #[.int .i64 10, .slice A1 0 c1, .int .i64 0, .int .i64 (-1), .bool false] 27)
  generalize W.alloc (.cells #[.int .i64 10, .slice A1 0 c1, .int .i64 0, .int .i64 (-1), .bool false] 27) = V at b1 hS1 hB ⊢
  generalize W.heap.size = g1 at b1 hg1 ap11 ⊢
  clear W
  have q := b1
  obtain ⟨-, k0, k1, k2, k3, k4, kf⟩ := q
  go_wp2_with fail
  refine (arm_gives ⟨10, [], 0, -1, false⟩ A1 c1 _ hS1 3).mono ?_
  rw [R2.out]
  rintro e W ⟨A2, c2, rfl, hS2, hst, hb⟩
  dsimp only [dval, List.length_cons, List.length_nil, Nat.reduceAdd] at hS2 hst ⊢
  clear k0 k1 k2 k3 k4 kf
  clear hS1 ap11
  replace b1 := b1.keep hb
  replace hB := below_step hB hb
  clear hst hb V
  have q := b1
  obtain ⟨-, k0, k1, k2, k3, k4, kf⟩ := q
  go_upto_region 3 with fail
  clear k0 k1 k2 k3 k4 kf
  replace b1 := b1.store (.int .i64 10) (.slice A2 0 c2) (.int .i64 0) (.int .i64 3) (.bool false)
  replace hS2 := (Sl.setCell (Sl.setCell (Sl.setCell (Sl.setCell (Sl.setCell hS2 ⟨g1, 0, none⟩ (.int .i64 10) (fun h => absurd rfl h)) ⟨g1, 1, none⟩ (.slice A2 0 c2) (fun h => absurd rfl h)) ⟨g1, 2, none⟩ (.int .i64 0) (fun h => absurd rfl h)) ⟨g1, 3, none⟩ (.int .i64 3) (fun h => absurd rfl h)) ⟨g1, 4, none⟩ (.bool false) (fun h => absurd rfl h))
  replace hB : Below w.heap.size w (((((W.setCell ⟨g1, 0, none⟩ (.int .i64 10)).setCell ⟨g1, 1, none⟩ (.slice A2 0 c2)).setCell ⟨g1, 2, none⟩ (.int .i64 0)).setCell ⟨g1, 3, none⟩ (.int .i64 3)).setCell ⟨g1, 4, none⟩ (.bool false)) := by (repeat' (first | (with_reducible exact hB) | (with_reducible exact Below.refl _ _) | (with_reducible refine Below.setCell ?_ ?_ _) | (with_reducible refine Below.alloc ?_ ?_ _) | (with_reducible refine Below.drew ?_) | (simp; done) | omega | (simp; omega)))
  generalize (((((W.setCell ⟨g1, 0, none⟩ (.int .i64 10)).setCell ⟨g1, 1, none⟩ (.slice A2 0 c2)).setCell ⟨g1, 2, none⟩ (.int .i64 0)).setCell ⟨g1, 3, none⟩ (.int .i64 3)).setCell ⟨g1, 4, none⟩ (.bool false)) = V at b1 hS2 hB ⊢
  clear W
  have q := b1
  obtain ⟨-, k0, k1, k2, k3, k4, kf⟩ := q
  have hL := Sl.lit5 V
  go_wp2_with fail
  refine (append_gives ⟨10, [], 0, 3, false⟩ A2 c2 _ (hS2.alloc _) _ 5 [1, 2, 3, 4, 5] hL _ rfl).mono ?_
  rw [R3.out]
  rintro e W ⟨A3, c3, rfl, hS3, hst, hb⟩
  dsimp only [dval, List.length_cons, List.length_nil, Nat.reduceAdd] at hS3 hst ⊢
  clear k0 k1 k2 k3 k4 kf
  clear hL hS2
  have ap31 := hst g1 (by have := b1.lt; simp; omega) (fun h => absurd rfl h)
  replace b1 := (b1.alloc _).keep hb
  replace hB := below_step (hB.alloc hB.size _) hb
  clear hst hb
  have q := b1
  obtain ⟨-, k0, k1, k2, k3, k4, kf⟩ := q
  go_upto_region 4 with fail
  clear k0 k1 k2 k3 k4 kf
  replace b1 := b1.store (.int .i64 10) (.slice A3 3 c3) (.int .i64 0) (.int .i64 0) (.bool true)
  replace hS3 := (Sl.setCell (Sl.setCell (Sl.setCell (Sl.setCell (Sl.setCell hS3 ⟨g1, 0, none⟩ (.int .i64 10) ap31) ⟨g1, 1, none⟩ (.slice A3 3 c3) ap31) ⟨g1, 2, none⟩ (.int .i64 0) ap31) ⟨g1, 3, none⟩ (.int .i64 0) ap31) ⟨g1, 4, none⟩ (.bool true) ap31)
  replace hB : Below w.heap.size w (((((W.setCell ⟨g1, 0, none⟩ (.int .i64 10)).setCell ⟨g1, 1, none⟩ (.slice A3 3 c3)).setCell ⟨g1, 2, none⟩ (.int .i64 0)).setCell ⟨g1, 3, none⟩ (.int .i64 0)).setCell ⟨g1, 4, none⟩ (.bool true)) := by (repeat' (first | (with_reducible exact hB) | (with_reducible exact Below.refl _ _) | (with_reducible refine Below.setCell ?_ ?_ _) | (with_reducible refine Below.alloc ?_ ?_ _) | (with_reducible refine Below.drew ?_) | (simp; done) | omega | (simp; omega)))
  generalize (((((W.setCell ⟨g1, 0, none⟩ (.int .i64 10)).setCell ⟨g1, 1, none⟩ (.slice A3 3 c3)).setCell ⟨g1, 2, none⟩ (.int .i64 0)).setCell ⟨g1, 3, none⟩ (.int .i64 0)).setCell ⟨g1, 4, none⟩ (.bool true)) = V at b1 hS3 hB ⊢
  clear W
  have q := b1
  obtain ⟨-, k0, k1, k2, k3, k4, kf⟩ := q
  go_wp2_with fail
  refine (crash_gives ⟨10, [1, 2, 3], 0, 0, true⟩ A3 c3 _ hS3 1).mono ?_
  rw [R4.out]
  rintro e W ⟨A4, c4, rfl, hS4, hst, hb⟩
  dsimp only [dval, List.length_cons, List.length_nil, Nat.reduceAdd] at hS4 hst ⊢
  clear k0 k1 k2 k3 k4 kf
  clear hS3 ap31
  replace b1 := b1.keep hb
  replace hB := below_step hB hb
  clear hst hb V
  go_upto_region 5 with fail
  have hg5 : w.heap.size ≤ W.heap.size := hB.size
  have b5 := Bx.new W (.int .i64 10) (.slice A4 1 c4) (.int .i64 1) (.int .i64 (-1)) (.bool false)
  have hl15 : g1 < W.heap.size := b1.lt
  replace b1 := b1.alloc (.cells #[.int .i64 10, .slice A4 1 c4, .int .i64 1, .int .i64 (-1), .bool false] 27)
  have ap45 := hS4.apart (Nat.le_refl _)
  replace hS4 := hS4.alloc (.cells #[.int .i64 10, .slice A4 1 c4, .int .i64 1, .int .i64 (-1), .bool false] 27)
  replace hB := hB.alloc hB.size (.cells #[.int .i64 10, .slice A4 1 c4, .int .i64 1, .int .i64 (-1), .bool false] 27)
  generalize W.alloc (.cells #[.int .i64 10, .slice A4 1 c4, .int .i64 1, .int .i64 (-1), .bool false] 27) = V at b1 b5 hS4 hB ⊢
  generalize W.heap.size = g5 at b5 hg5 hl15 ap45 ⊢
  clear W
  have q := b5
  obtain ⟨-, k0, k1, k2, k3, k4, kf⟩ := q
  go_wp2_with fail
  refine (arm_gives ⟨10, [1], 1, -1, false⟩ A4 c4 _ hS4 0).mono ?_
  rw [R5.out]
  rintro e W ⟨A5, c5, rfl, hS5, hst, hb⟩
  dsimp only [dval, List.length_cons, List.length_nil, Nat.reduceAdd] at hS5 hst ⊢
  clear k0 k1 k2 k3 k4 kf
  replace b1 := b1.keep hb
  replace b5 := b5.keep hb
  replace hS4 := hS4.keep hb
  replace hB := below_step hB hb
  clear hst hb V
  go_upto_region 6 with fail
  have hg6 : w.heap.size ≤ W.heap.size := hB.size
  have b6 := Bx.new W (.int .i64 10) (.slice A5 1 c5) (.int .i64 1) (.int .i64 0) (.bool false)
  have hl16 : g1 < W.heap.size := b1.lt
  have hl56 : g5 < W.heap.size := b5.lt
  replace b1 := b1.alloc (.cells #[.int .i64 10, .slice A5 1 c5, .int .i64 1, .int .i64 0, .bool false] 27)
  replace b5 := b5.alloc (.cells #[.int .i64 10, .slice A5 1 c5, .int .i64 1, .int .i64 0, .bool false] 27)
  have ap46 := hS4.apart (Nat.le_refl _)
  have ap56 := hS5.apart (Nat.le_refl _)
  replace hS4 := hS4.alloc (.cells #[.int .i64 10, .slice A5 1 c5, .int .i64 1, .int .i64 0, .bool false] 27)
  replace hS5 := hS5.alloc (.cells #[.int .i64 10, .slice A5 1 c5, .int .i64 1, .int .i64 0, .bool false] 27)
  replace hB := hB.alloc hB.size (.cells #[.int .i64 10, .slice A5 1 c5, .int .i64 1, .int .i64 0, .bool false] 27)
  generalize W.alloc (.cells #[.int .i64 10, .slice A5 1 c5, .int .i64 1, .int .i64 0, .bool false] 27) = V at b1 b5 b6 hS4 hS5 hB ⊢
  generalize W.heap.size = g6 at b6 hg6 hl16 hl56 ap46 ap56 ⊢
  clear W
  have q := b6
  obtain ⟨-, k0, k1, k2, k3, k4, kf⟩ := q
  go_wp2_with fail
  refine (append_gives ⟨10, [1], 1, 0, false⟩ A5 c5 _ hS5 none 0 [] (Sl.nil _ none 0 (by decide)) 0 rfl).mono ?_
  rw [R6.out]
  rintro e W ⟨A6, c6, rfl, hS6, hst, hb⟩
  dsimp only [dval, List.length_cons, List.length_nil, Nat.reduceAdd] at hS6 hst ⊢
  clear k0 k1 k2 k3 k4 kf
  have ap66 := hst g6 (by have := b6.lt; omega) ap56
  replace b1 := b1.keep hb
  replace b5 := b5.keep hb
  replace b6 := b6.keep hb
  replace hS4 := hS4.keep hb
  replace hB := below_step hB hb
  clear hst hb V hS5 ap56
  have q := b6
  obtain ⟨-, k0, k1, k2, k3, k4, kf⟩ := q
  go_upto_region 7 with fail
  clear k0 k1 k2 k3 k4 kf
  replace b6 := b6.store (.int .i64 10) (.slice A6 1 c6) (.int .i64 1) (.int .i64 0) (.bool false)
  replace b1 := (Bx.far (Bx.far (Bx.far (Bx.far (Bx.far b1 ⟨g6, 0, none⟩ (.int .i64 10) (by show g1 ≠ g6; omega)) ⟨g6, 1, none⟩ (.slice A6 1 c6) (by show g1 ≠ g6; omega)) ⟨g6, 2, none⟩ (.int .i64 1) (by show g1 ≠ g6; omega)) ⟨g6, 3, none⟩ (.int .i64 0) (by show g1 ≠ g6; omega)) ⟨g6, 4, none⟩ (.bool false) (by show g1 ≠ g6; omega))
  replace b5 := (Bx.far (Bx.far (Bx.far (Bx.far (Bx.far b5 ⟨g6, 0, none⟩ (.int .i64 10) (by show g5 ≠ g6; omega)) ⟨g6, 1, none⟩ (.slice A6 1 c6) (by show g5 ≠ g6; omega)) ⟨g6, 2, none⟩ (.int .i64 1) (by show g5 ≠ g6; omega)) ⟨g6, 3, none⟩ (.int .i64 0) (by show g5 ≠ g6; omega)) ⟨g6, 4, none⟩ (.bool false) (by show g5 ≠ g6; omega))
  replace hS6 := (Sl.setCell (Sl.setCell (Sl.setCell (Sl.setCell (Sl.setCell hS6 ⟨g6, 0, none⟩ (.int .i64 10) ap66) ⟨g6, 1, none⟩ (.slice A6 1 c6) ap66) ⟨g6, 2, none⟩ (.int .i64 1) ap66) ⟨g6, 3, none⟩ (.int .i64 0) ap66) ⟨g6, 4, none⟩ (.bool false) ap66)
  replace hS4 := (Sl.setCell (Sl.setCell (Sl.setCell (Sl.setCell (Sl.setCell hS4 ⟨g6, 0, none⟩ (.int .i64 10) ap46) ⟨g6, 1, none⟩ (.slice A6 1 c6) ap46) ⟨g6, 2, none⟩ (.int .i64 1) ap46) ⟨g6, 3, none⟩ (.int .i64 0) ap46) ⟨g6, 4, none⟩ (.bool false) ap46)
  replace hB : Below w.heap.size w (((((W.setCell ⟨g6, 0, none⟩ (.int .i64 10)).setCell ⟨g6, 1, none⟩ (.slice A6 1 c6)).setCell ⟨g6, 2, none⟩ (.int .i64 1)).setCell ⟨g6, 3, none⟩ (.int .i64 0)).setCell ⟨g6, 4, none⟩ (.bool false)) := by (repeat' (first | (with_reducible exact hB) | (with_reducible exact Below.refl _ _) | (with_reducible refine Below.setCell ?_ ?_ _) | (with_reducible refine Below.alloc ?_ ?_ _) | (with_reducible refine Below.drew ?_) | (simp; done) | omega | (simp; omega)))
  generalize (((((W.setCell ⟨g6, 0, none⟩ (.int .i64 10)).setCell ⟨g6, 1, none⟩ (.slice A6 1 c6)).setCell ⟨g6, 2, none⟩ (.int .i64 1)).setCell ⟨g6, 3, none⟩ (.int .i64 0)).setCell ⟨g6, 4, none⟩ (.bool false)) = V at b1 b5 b6 hS6 hS4 hB ⊢
  clear W
  have q := b6
  obtain ⟨-, k0, k1, k2, k3, k4, kf⟩ := q
  go_wp2_with fail
  refine (sync_gives ⟨10, [1], 1, 0, false⟩ A6 c6 _ hS6).mono ?_
  rw [R7.out]
  rintro e W ⟨A7, c7, rfl, hS7, hst, hb⟩
  dsimp only [dval, List.length_cons, List.length_nil, Nat.reduceAdd] at hS7 hst ⊢
  clear k0 k1 k2 k3 k4 kf
  clear hS6 ap66
  replace b1 := b1.keep hb
  replace b5 := b5.keep hb
  replace b6 := b6.keep hb
  replace hS4 := hS4.keep hb
  replace hB := below_step hB hb
  clear hst hb V hS7
  go_upto_region 8 with fail
  have hg9 : w.heap.size ≤ W.heap.size := hB.size
  have b9 := Bx.new W (.int .i64 10) (.slice A7 1 c7) (.int .i64 1) (.int .i64 0) (.bool true)
  have hl19 : g1 < W.heap.size := b1.lt
  have hl59 : g5 < W.heap.size := b5.lt
  have hl69 : g6 < W.heap.size := b6.lt
  replace b1 := b1.alloc (.cells #[.int .i64 10, .slice A7 1 c7, .int .i64 1, .int .i64 0, .bool true] 27)
  replace b5 := b5.alloc (.cells #[.int .i64 10, .slice A7 1 c7, .int .i64 1, .int .i64 0, .bool true] 27)
  replace b6 := b6.alloc (.cells #[.int .i64 10, .slice A7 1 c7, .int .i64 1, .int .i64 0, .bool true] 27)
  have ap49 := hS4.apart (Nat.le_refl _)
  replace hS4 := hS4.alloc (.cells #[.int .i64 10, .slice A7 1 c7, .int .i64 1, .int .i64 0, .bool true] 27)
  replace hB := hB.alloc hB.size (.cells #[.int .i64 10, .slice A7 1 c7, .int .i64 1, .int .i64 0, .bool true] 27)
  generalize W.alloc (.cells #[.int .i64 10, .slice A7 1 c7, .int .i64 1, .int .i64 0, .bool true] 27) = V at b1 b5 b6 b9 hS4 hB ⊢
  generalize W.heap.size = g9 at b9 hg9 hl19 hl59 hl69 ap49 ⊢
  clear W
  have hcv := conv_row hS4.row 1 c4 rfl
  rw [str_one] at hcv
  obtain ⟨-, k0, k1, k2, k3, k4, kf⟩ := b1
  obtain ⟨-, j0, j1, j2, j3, j4, jf⟩ := b5
  go_wp2
  go_ret
  exact ⟨rfl, hB⟩
end Go.Proofs.Ytdchodjfgeglgaa
