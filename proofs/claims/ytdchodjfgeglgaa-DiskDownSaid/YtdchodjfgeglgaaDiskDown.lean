/-
  'DiskDown' (tracebook): the Go text of this law returns true at every input of its types, and writes nothing that was there.
-/
import Derived.Test.YtdchodjfgeglgaaOpen
namespace Go.Proofs.Ytdchodjfgeglgaa.diskDown
open Go.ChangeShapes Go.WideShapes Go.ChangeAt Go.RowKit
set_option linter.unusedVariables false

set_option maxRecDepth 100000 in
set_option maxHeartbeats 1600000 in
theorem walk_a (s : Int) (A : Option Addr) (cap : Nat) (xs : List Int) (du le : Int) (dn : Bool) (kd m : Int) (B : Option Addr) (cb : Nat) (ys : List Int) (w : World) (hx : Sl w A cap xs) (hy : Sl w B cb ys) (h : 300 < xs.length) :
    Calls Try.prog 6 #[.agg #[.int .i64 s, .slice A xs.length cap, .int .i64 du, .int .i64 le, .bool dn], .agg #[.int .i64 kd, .int .i64 m, .slice B ys.length cb]] w fun e w' => e = .returned (.bool true) ∧ Below w.heap.size w w' := by
  go_enter Try.func6, Try.ntmps6
  go_wp2_with fail
  refine (awake_any _).mono ?_
  rintro e W ⟨rfl, hb⟩
  have b2 := ((Bx.new w _ _ _ _ _).alloc _).keep hb
  have b3 := (Ob.new1 w _ _ _ _).keep hb
  have hB := (two_ _ _).trans (hb.mono (two_ (w := w) _ _).size)
  clear hb
  have q2 := b2
  have q3 := b3
  obtain ⟨hz0, k0, k1, k2, k3, k4, kf⟩ := q2
  obtain ⟨hz1, j0, j1, j2⟩ := q3
  go_wp2_with fail
  refine (awake_any _).mono ?_
  rintro e W' ⟨rfl, hb⟩
  go_wp2
  go_ret
  exact ⟨rfl, below_step hB hb⟩

set_option maxRecDepth 100000 in
set_option maxHeartbeats 1600000 in
theorem walk_b (s : Int) (A : Option Addr) (cap : Nat) (xs : List Int) (du le : Int) (dn : Bool) (kd m : Int) (B : Option Addr) (cb : Nat) (ys : List Int) (w : World) (hx : Sl w A cap xs) (hy : Sl w B cb ys) (h : xs.length ≤ 300) (h2 : 100 < ys.length) :
    Calls Try.prog 6 #[.agg #[.int .i64 s, .slice A xs.length cap, .int .i64 du, .int .i64 le, .bool dn], .agg #[.int .i64 kd, .int .i64 m, .slice B ys.length cb]] w fun e w' => e = .returned (.bool true) ∧ Below w.heap.size w w' := by
  go_enter Try.func6, Try.ntmps6
  go_wp2_with fail
  refine (awake_any _).mono ?_
  rintro e W ⟨rfl, hb⟩
  have b2 := ((Bx.new w _ _ _ _ _).alloc _).keep hb
  have b3 := (Ob.new1 w _ _ _ _).keep hb
  have hB := (two_ _ _).trans (hb.mono (two_ (w := w) _ _).size)
  clear hb
  have q2 := b2
  have q3 := b3
  obtain ⟨hz0, k0, k1, k2, k3, k4, kf⟩ := q2
  obtain ⟨hz1, j0, j1, j2⟩ := q3
  go_wp2_with fail
  refine (awake_any _).mono ?_
  rintro e W' ⟨rfl, hb⟩
  go_wp2
  go_ret
  exact ⟨rfl, below_step hB hb⟩

set_option maxRecDepth 100000 in
set_option maxHeartbeats 1600000 in
theorem walk_c (s : Int) (A : Option Addr) (cap : Nat) (xs : List Int) (du le : Int) (dn : Bool) (kd m : Int) (B : Option Addr) (cb : Nat) (ys : List Int) (w : World) (hx : Sl w A cap xs) (hy : Sl w B cb ys) (h : xs.length ≤ 300) (h2 : ys.length ≤ 100) (h3 : kd = 7) :
    Calls Try.prog 6 #[.agg #[.int .i64 s, .slice A xs.length cap, .int .i64 du, .int .i64 le, .bool dn], .agg #[.int .i64 kd, .int .i64 m, .slice B ys.length cb]] w fun e w' => e = .returned (.bool true) ∧ Below w.heap.size w w' := by
  subst h3
  go_enter Try.func6, Try.ntmps6
  go_wp2_with fail
  refine (awake_any _).mono ?_
  rintro e W ⟨rfl, hb⟩
  have b2 := ((Bx.new w _ _ _ _ _).alloc _).keep hb
  have b3 := (Ob.new1 w _ _ _ _).keep hb
  have hB := (two_ _ _).trans (hb.mono (two_ (w := w) _ _).size)
  clear hb
  have q2 := b2
  have q3 := b3
  obtain ⟨hz0, k0, k1, k2, k3, k4, kf⟩ := q2
  obtain ⟨hz1, j0, j1, j2⟩ := q3
  go_wp2_with fail
  refine (awake_any _).mono ?_
  rintro e W' ⟨rfl, hb⟩
  go_wp2
  go_ret
  exact ⟨rfl, below_step hB hb⟩

set_option maxRecDepth 100000 in
set_option maxHeartbeats 1600000 in
theorem walk_d (s : Int) (A : Option Addr) (cap : Nat) (xs : List Int) (du le : Int) (dn : Bool) (kd m : Int) (B : Option Addr) (cb : Nat) (ys : List Int) (w : World) (hx : Sl w A cap xs) (hy : Sl w B cb ys) (h : xs.length ≤ 300) (h2 : ys.length ≤ 100) (h3 : (kd == 7) = false) (ho : okB s xs.length du le = false) :
    Calls Try.prog 6 #[.agg #[.int .i64 s, .slice A xs.length cap, .int .i64 du, .int .i64 le, .bool dn], .agg #[.int .i64 kd, .int .i64 m, .slice B ys.length cb]] w fun e w' => e = .returned (.bool true) ∧ Below w.heap.size w w' := by
  have C := Lib.hid (fun W : World => check_bad s A xs.length cap du le true W ho)
  clear ho
  go_enter Try.func6, Try.ntmps6
  go_wp2_with fail
  refine (awake_any _).mono ?_
  rintro e W ⟨rfl, hb⟩
  have b2 := ((Bx.new w _ _ _ _ _).alloc _).keep hb
  have b3 := (Ob.new1 w _ _ _ _).keep hb
  have hB := (two_ _ _).trans (hb.mono (two_ (w := w) _ _).size)
  clear hb
  have q2 := b2
  have q3 := b3
  obtain ⟨hz0, k0, k1, k2, k3, k4, kf⟩ := q2
  obtain ⟨hz1, j0, j1, j2⟩ := q3
  go_wp2_with fail
  refine (C.out _).mono ?_
  rintro e W2 ⟨rfl, hb⟩
  go_wp2
  go_ret
  refine ⟨rfl, below_step ?_ hb⟩
  (repeat' (first | (with_reducible exact hB) | (with_reducible exact Below.refl _ _) | (with_reducible refine Below.setCell ?_ ?_ _) | (with_reducible refine Below.alloc ?_ ?_ _) | (with_reducible refine Below.drew ?_) | (simp; done) | omega | (simp; omega)))

set_option maxRecDepth 100000 in
set_option maxHeartbeats 3200000 in
theorem walk_e (s : Int) (A : Option Addr) (cap : Nat) (xs : List Int) (du le : Int) (dn : Bool) (kd m : Int) (B : Option Addr) (cb : Nat) (ys : List Int) (w : World) (hx : Sl w A cap xs) (hy : Sl w B cb ys) (h : xs.length ≤ 300) (h2 : ys.length ≤ 100) (h3 : (kd == 7) = false) (ho : okB s xs.length du le = true) :
    Calls Try.prog 6 #[.agg #[.int .i64 s, .slice A xs.length cap, .int .i64 du, .int .i64 le, .bool dn], .agg #[.int .i64 kd, .int .i64 m, .slice B ys.length cb]] w fun e w' => e = .returned (.bool true) ∧ Below w.heap.size w w' := by
  have C := Lib.hid (fun W : World => check_ok s A xs.length cap du le true W ho)
  have F := Lib.hid (actF_down (d := ⟨s, xs, du, le, true⟩) ho rfl (kd := kd) (by simpa using h3) m ys)
  clear ho
  go_enter Try.func6, Try.ntmps6
  go_wp2_with fail
  refine (awake_any _).mono ?_
  rintro e W ⟨rfl, hb⟩
  have b2 := ((Bx.new w _ _ _ _ _).alloc _).keep hb
  have b3 := (Ob.new1 w _ _ _ _).keep hb
  have hB := (two_ _ _).trans (hb.mono (two_ (w := w) _ _).size)
  clear hb
  have q2 := b2
  have q3 := b3
  obtain ⟨hz0, k0, k1, k2, k3, k4, kf⟩ := q2
  obtain ⟨hz1, j0, j1, j2⟩ := q3
  go_upto_region 4 with fail
  have c2 := b2.set4 (.bool true)
  have c3 := b3.far ⟨w.heap.size, 4, none⟩ (.bool true) (by simp)
  have hB1 : Below w.heap.size w (W.setCell ⟨w.heap.size, 4, none⟩ (.bool true)) := by (repeat' (first | (with_reducible exact hB) | (with_reducible exact Below.refl _ _) | (with_reducible refine Below.setCell ?_ ?_ _) | (with_reducible refine Below.alloc ?_ ?_ _) | (with_reducible refine Below.drew ?_) | (simp; done) | omega | (simp; omega)))
  generalize W.setCell ⟨w.heap.size, 4, none⟩ (.bool true) = V at c2 c3 hB1 ⊢
  clear b2 b3 hB hz0 hz1 k0 k1 k2 k3 k4 kf j0 j1 j2
  have q2 := c2
  obtain ⟨hz0, k0, k1, k2, k3, k4, kf⟩ := q2
  go_wp2_with fail
  refine (C.out _).mono ?_
  rintro e W2 ⟨rfl, hb⟩
  clear hz0 k0 k1 k2 k3 k4 kf
  replace c2 := c2.keep hb
  replace c3 := c3.keep hb
  replace hB1 := below_step hB1 hb
  clear hb
  have q2 := c2
  have q3 := c3
  obtain ⟨hz0, k0, k1, k2, k3, k4, kf⟩ := q2
  obtain ⟨hz1, j0, j1, j2⟩ := q3
  go_wp2_with fail
  refine (act_gives ⟨s, xs, du, le, true⟩ A cap kd m B cb ys _ (hx.keep hB1) (hy.keep hB1)).mono ?_
  rw [F.out]
  rintro e W3 ⟨A3, c4, rfl, hS3, hst, hb⟩
  dsimp only [dval] at hS3 hst ⊢
  clear hz0 hz1 k0 k1 k2 k3 k4 kf j0 j1 j2
  replace c2 := c2.keep hb
  replace hB1 := below_step hB1 hb
  clear hb
  have q2 := c2
  obtain ⟨hz0, k0, k1, k2, k3, k4, kf⟩ := q2
  go_wp2_with fail
  refine (same_eq s xs du le true A3 A c4 cap _ (hS3.alloc _) ((hx.keep hB1).alloc _)).mono ?_
  rintro e W4 ⟨rfl, hb⟩
  go_wp2
  go_ret
  exact ⟨rfl, below_step (hB1.alloc hB1.size _) hb⟩

theorem walk (s : Int) (A : Option Addr) (cap : Nat) (xs : List Int) (du le : Int) (dn : Bool) (kd m : Int) (B : Option Addr) (cb : Nat) (ys : List Int) (w : World) (hx : Sl w A cap xs) (hy : Sl w B cb ys) :
    Calls Try.prog 6 #[.agg #[.int .i64 s, .slice A xs.length cap, .int .i64 du, .int .i64 le, .bool dn], .agg #[.int .i64 kd, .int .i64 m, .slice B ys.length cb]] w fun e w' => e = .returned (.bool true) ∧ Below w.heap.size w w' := by
  by_cases h : xs.length ≤ 300
  · by_cases h2 : ys.length ≤ 100
    · by_cases h3 : kd = 7
      · exact walk_c s A cap xs du le dn kd m B cb ys w hx hy h h2 h3
      · cases ho : okB s xs.length du le
        · exact walk_d s A cap xs du le dn kd m B cb ys w hx hy h h2 (by simpa using h3) ho
        · exact walk_e s A cap xs du le dn kd m B cb ys w hx hy h h2 (by simpa using h3) ho
    · exact walk_b s A cap xs du le dn kd m B cb ys w hx hy h (by omega)
  · exact walk_a s A cap xs du le dn kd m B cb ys w hx hy (by omega)

set_option maxRecDepth 100000 in
theorem lifted (os : Os) (started : os.Started) (H : Type) (enc : TypeId × Value → H) :
    ReturnsInHanded {} Try.checked os 6 .any (Rows.diskDownSpec.pre6 enc Try.prog Try.f6 Rows.diskDownRow.domain false) (Rows.diskDownSpec.post enc Try.prog Try.f6 false true false false) := by
  refine returnsInHanded_of_change (C := Try.checked) own started (by kernel_rfl) Try.func6
    (ChangeSpec.witness6 (enc := enc) (C := Try.checked) false ⟨#[], #[.agg #[.int .i64 0, .slice none 0 0, .int .i64 0, .int .i64 0, .bool false], .agg #[.int .i64 0, .int .i64 0, .slice none 0 0]], []⟩ 8 (by kernel_rfl) (by kernel_rfl) (by kernel_rfl) (by kernel_rfl)) ?_
  intro W base args ds gs before hval0 hW hcnd _
  have hval : ∀ (j : Nat) t v, Try.f6.params[j]? = some t → args[j]? = some v → Value.okWide Try.prog W .any base t v := hval0
  have hW' := hW
  obtain ⟨p, q, hA0, hV, rfl, hfz, hnd⟩ := hW
  have hA : DataW.TrodAll enc Try.prog W 0 (fun _ => true) true Try.f6.params.toList args.toList ds p := hA0
  rw [Try.params6] at hA hval
  obtain ⟨v0, vs0, d0, ds0, p0, q0, hargs, rfl, rfl, h0, r0⟩ := trodAll_cons hA
  obtain ⟨v1, vs1, d1, ds1, p1, q1, rfl, rfl, rfl, h1, r1⟩ := trodAll_cons r0
  obtain ⟨rfl, rfl, rfl⟩ := trodAll_nil r1
  obtain rfl : args = #[v0, v1] := by cases args; simp_all
  obtain ⟨rfl, rfl⟩ := trodVars_none hV
  have k0 := h0
  have lt0 : ∀ x ∈ p0, x.block < W.heap.size := by obtain ⟨m, hm⟩ := k0; exact DataW.trod_lt m _ _ _ hm
  obtain ⟨s0, A0, cap0, xs0, du0, le0, dn0, rfl, hx0, ws0, wd0, wl0⟩ := open_disk (hval 0 27 v0 rfl rfl) h0
  have k1 := h1
  have lt1 : ∀ x ∈ p1, x.block < W.heap.size := by obtain ⟨m, hm⟩ := k1; exact DataW.trod_lt m _ _ _ hm
  obtain ⟨kd1, m1, B1, cb1, ys1, rfl, hy1, wk1, wm1⟩ := open_op (hval 1 34 v1 rfl rfl) h1
  clear hA0 hval0
  refine (walk s0 A0 cap0 xs0 du0 le0 dn0 kd1 m1 B1 cb1 ys1 W hx0 hy1).mono fun e W' ⟨he, bel⟩ => ?_
  subst he
  exact ⟨_, rfl, _, _, _, [], _, [], hW', trodAll_mk1 (shut_bool Try.underlying4 _), (trodAll_cons_mk (Below.trod laidOut (by kernel_rfl) (of_decide_eq_true (by kernel_rfl)) k0 bel lt0) (trodAll_cons_mk (Below.trod laidOut (by kernel_rfl) (of_decide_eq_true (by kernel_rfl)) k1 bel lt1) trodAll_mk0)), rfl, bel.frame _, fun h => by cases h⟩

theorem over : Rows.diskDownRow.holds Try.pinned (OpenSpec.ofChange Rows.diskDownSpec) :=
  OpenClaim.holds_of_wide 6 Try.f6 rfl rfl rfl rfl rfl rfl rfl ⟨rfl, rfl, rfl, rfl, rfl⟩ rfl rfl rfl rfl rfl (by kernel_rfl) Try.func6 (by kernel_rfl)
    (of_decide_eq_true (by kernel_rfl)) (by unfold Func.isWrapper; first | (rw [if_pos (by decide +kernel)]; kernel_rfl) | (rw [if_neg (by decide +kernel)]; exact ⟨rfl, rfl⟩))
    (fun os started H enc _ => lifted os started H enc)

theorem proved : Rows.DiskDownSaid := over
#print axioms proved
end Go.Proofs.Ytdchodjfgeglgaa.diskDown
