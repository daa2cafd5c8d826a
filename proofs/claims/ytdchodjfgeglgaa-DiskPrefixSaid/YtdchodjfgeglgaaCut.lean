/- Contracts: Append where the power is lost on the way. -/
import Derived.Test.YtdchodjfgeglgaaReady
namespace Go.Proofs.Ytdchodjfgeglgaa
open Go.ChangeShapes Go.WideShapes Go.ChangeAt Go.RowKit

set_option maxRecDepth 100000 in
set_option maxHeartbeats 3200000 in
theorem append_cut (s : Int) (A : Option Addr) (cap : Nat) (xs : List Int) (du : Int) (k : Nat) (B : Option Addr) (cb : Nat) (ys : List Int) (w : World) (h : okB s xs.length du k = true) (hm : (xs.length : Int) + ys.length ≤ s) (hle : k < ys.length) (hx : Sl w A cap xs) (hy : Sl w B cb ys) :
    Calls Try.prog 18 #[.agg #[.int .i64 s, .slice A xs.length cap, .int .i64 du, .int .i64 k, .bool false], .slice B ys.length cb] w fun e w' => ∃ A2 c2, e = .returned (.tuple #[.agg #[.int .i64 s, .slice A2 (xs.length + (ys.take k).length) c2, .int .i64 du, .int .i64 0, .bool true], .int .i64 19]) ∧ Sl w' A2 c2 (xs ++ ys.take k) ∧ Stays w.heap.size A xs A2 (xs ++ ys.take k) ∧ Below w.heap.size w w' := by
  have C := Lib.hid (fun W : World => ready_ok s A xs.length cap du k W h)
  have hh := okB_iff.1 h
  obtain ⟨h1, h2, h3, -, -, -, h7⟩ := hh
  have hxc := hx.le
  have hxm := hx.max
  have hyc := hy.le
  have hym := hy.max
  have hkne : ((k : Int) == -1) = false := by simp
  have hkne2 : ((k : Int) != -1) = true := by simp
  have hkc : k ≤ cb := by omega
  have htk := Lib.hid (show k = (ys.take k).length by rw [List.length_take]; omega)
  have hyk : ∀ W' : World, Below w.heap.size w W' → Sl W' B cb (ys.take k) := fun W' hb => (hy.keep hb).take k (by simp; omega) hym
  have HY := Lib.hid hyk
  have htl : xs.length + (ys.take k).length ≤ 4000000 := by simp; omega
  have HTL := Lib.hid htl
  clear h hyk htl
  go_enter Try.func18, Try.ntmps18
  go_wp2_with fail
  refine (C.out _).mono ?_
  rintro e W ⟨rfl, hb⟩
  clear C
  have b2 := ((Bx.new w _ _ _ _ _).alloc _).keep hb
  have b4 := (Bx.new1 w _ _ _ _ _ _).keep hb
  have hB := (two_ _ _).trans (hb.mono (two_ (w := w) _ _).size)
  clear hb
  have hz0 := b2.lt
  have hz1 := b4.lt
  obtain ⟨-, k0, k1, k2, k3, k4, kf⟩ := b2
  obtain ⟨-, j0, j1, j2, j3, j4, jf⟩ := b4
  go_wp2
  go_region_law (first
    | (refine step_append_clip rfl (.tmp 39) (.tmp 43) rfl A cap xs (hx.keep (by (repeat' (first | (with_reducible exact hB) | (with_reducible refine Below.setCell ?_ ?_ _) | (with_reducible refine Below.alloc ?_ ?_ _) | (with_reducible refine Below.drew ?_) | (simp; done) | omega | (simp; omega))))) (by simp [Act.eval, Act.put]) B cb (ys.take k) (HY.out _ (by (repeat' (first | (with_reducible exact hB) | (with_reducible refine Below.setCell ?_ ?_ _) | (with_reducible refine Below.alloc ?_ ?_ _) | (with_reducible refine Below.drew ?_) | (simp; done) | omega | (simp; omega))))) k htk.out (by simp [Act.eval, Act.put]) HTL.out ?_
       intro A2 c2 W2 hS2 hb2 hap
       have hst : Stays w.heap.size A xs A2 (xs ++ ys.take k) := fun b hb h => hap b (by simp; omega) h
       have hap0 := hap w.heap.size (by simp; omega) (hx.apart (Nat.le_refl _))
       have hap1 := hap (w.heap.size + 1) (by simp; omega) (hx.apart (by omega))
       have hB2 : Below w.heap.size w W2 := below_step (by (repeat' (first | (with_reducible exact hB) | (with_reducible refine Below.setCell ?_ ?_ _) | (with_reducible refine Below.alloc ?_ ?_ _) | (with_reducible refine Below.drew ?_) | (simp; done) | omega | (simp; omega)))) hb2
       have b2 : Bx W2 w.heap.size _ _ _ _ _ := (Bx.keep (Bx.alloc ⟨hz0, k0, k1, k2, k3, k4, kf⟩ _) (Below.refl _ _).drew).keep hb2
       have b4 : Bx W2 (w.heap.size + 1) _ _ _ _ _ := (Bx.keep (Bx.alloc ⟨hz1, j0, j1, j2, j3, j4, jf⟩ _) (Below.refl _ _).drew).keep hb2
       clear hb2 hap k0 k1 k2 k3 k4 kf j0 j1 j2 j3 j4 jf hz0 hz1
       have hz0 := b2.lt
       have hz1 := b4.lt
       obtain ⟨-, k0, k1, k2, k3, k4, kf⟩ := b2
       obtain ⟨-, j0, j1, j2, j3, j4, jf⟩ := b4)
    | (go_simp; go_at_call 27; refine (clip_any _ _ _ _ hxc hxm).mono ?_; rintro e w' ⟨rfl, rfl⟩))
  go_wp2
  all_goals
    refine bodyPost_ret (v := .tuple #[.agg #[.int .i64 s, .slice A2 (xs.length + (ys.take k).length) c2, .int .i64 du, .int .i64 0, .bool true], .int .i64 19]) (by simp only [results, Try.results18]; go_simp) rfl ⟨A2, c2, rfl, ?_, hst, ?_⟩
    · (repeat' (first | (with_reducible exact hS2) | (with_reducible exact hap0) | (with_reducible exact hap1) | (with_reducible refine Sl.setCell ?_ _ _ ?_) | (with_reducible refine Sl.alloc ?_ _)))
    · clear hB
      have hB := hB2
      (repeat' (first | (with_reducible exact hB) | (with_reducible refine Below.setCell ?_ ?_ _) | (with_reducible refine Below.alloc ?_ ?_ _) | (with_reducible refine Below.drew ?_) | (simp; done) | omega | (simp; omega)))
end Go.Proofs.Ytdchodjfgeglgaa
