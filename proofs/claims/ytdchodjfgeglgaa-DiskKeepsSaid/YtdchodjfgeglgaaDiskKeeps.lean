/-
  'DiskKeeps' (tracebook): the Go text of this law returns true at every input of its types, and writes nothing that was there.
-/
import Derived.Test.YtdchodjfgeglgaaFew
import Derived.Test.YtdchodjfgeglgaaKeepM
import Derived.Deep.Cut
import Derived.Deep.CutRange
import Derived.Deep.RegionHeld3
namespace Go.Proofs.Ytdchodjfgeglgaa.diskKeeps
open Go.ChangeShapes Go.WideShapes Go.ChangeAt Go.RowKit
set_option linter.unusedVariables false

structure Sk (w : World) (g7 : Nat) (s : Int) (xs : List Int) (du le : Int) (dn : Bool) (A7 : Option Addr) (c7 : Nat) (V : World) : Prop where
  b7 : Bx V g7 (.int .i64 s) (.slice A7 xs.length c7) (.int .i64 du) (.int .i64 le) (.bool dn)
  s7 : Sl V A7 c7 xs
  p77 : Apart A7 xs g7
  lo : w.heap.size ≤ g7
  bel : Below w.heap.size w V
theorem Sk.keep {w V V' : World} {g7 : Nat} {s : Int} {xs : List Int} {du le : Int} {dn : Bool} {A7 : Option Addr} {c7 : Nat} (h : Sk w g7 s xs du le dn A7 c7 V) (hb : Below V.heap.size V V') : Sk w g7 s xs du le dn A7 c7 V' :=
  ⟨h.b7.keep hb, h.s7.keep hb, h.p77, h.lo, below_step h.bel hb⟩
def Inv (w : World) (g7 len : Nat) (zs : List Int) (i : Value) (V : World) : Prop :=
  ∃ (k : Nat) (s : Int) (xs : List Int) (du le : Int) (dn : Bool) (A7 : Option Addr) (c7 : Nat), k ≤ len ∧ i = .int .i64 k ∧ Holds zs ⟨s, xs, du, le, dn⟩ ∧ Sk w g7 s xs du le dn A7 c7 V
theorem Inv.mk (w : World) (g7 len : Nat) (zs : List Int) (i : Value) (V : World) (k : Nat) (s : Int) (xs : List Int) (du le : Int) (dn : Bool) (A7 : Option Addr) (c7 : Nat) (h1 : k ≤ len) (h2 : i = .int .i64 k) (h3 : Holds zs ⟨s, xs, du, le, dn⟩) (h4 : Sk w g7 s xs du le dn A7 c7 V) : Inv w g7 len zs i V :=
  ⟨k, s, xs, du, le, dn, A7, c7, h1, h2, h3, h4⟩
def Mid (w : World) (g7 : Nat) (s : Int) (xs : List Int) (du le : Int) (dn : Bool) (A7 : Option Addr) (c7 : Nat) (s2 : Int) (xs2 : List Int) (du2 le2 : Int) (dn2 : Bool) (x : Int) (p q : Value) (V : World) : Prop :=
  ∃ (g : Nat) (A : Option Addr) (c : Nat), p = .pointer (some ⟨g, 0, none⟩) ∧ q = .int .i64 x ∧ g7 < g ∧ Bx V g (.int .i64 s2) (.slice A xs2.length c) (.int .i64 du2) (.int .i64 le2) (.bool dn2) ∧ Sl V A c xs2 ∧ Apart A xs2 g7 ∧ Sk w g7 s xs du le dn A7 c7 V

set_option maxRecDepth 100000 in
set_option maxHeartbeats 6400000 in
theorem walk_main (B0 : Option Addr) (cb0 : Nat) (zs : List Int) (a : Option Addr) (cap : Nat) (L : List OpD) (keep : Int) (w : World) (hz : Sl w B0 cb0 zs) (hL : OpsIn w a cap L) (hfew : fewB L = true) (hzl : zs.length ≤ 100) :
    Calls Try.prog 7 #[.slice B0 zs.length cb0, .slice a L.length cap, .int .i64 keep] w fun e w' => e = .returned (.bool true) ∧ Below w.heap.size w w' := by
  have hle := hL.le
  have hmx := hL.max
  have hlen := (fewB_true hfew).1
  have HF := Lib.hid (fewB_true hfew).2
  have F := Lib.hid (fun (W : World) (h : OpsIn W a cap L) => few_any a cap L W h)
  rw [hfew] at F
  have N1 := Lib.hid (fun W : World => new_gives 1000 W none [])
  rw [new1000] at N1
  have N2 := Lib.hid (fun (W : World) (A : Option Addr) (c : Nat) (h : Sl W A c []) (h2 : Sl W B0 cb0 zs) => append_gives ⟨1000, [], 0, -1, false⟩ A c W h B0 cb0 zs h2 _ rfl)
  rw [app1000 zs hzl] at N2
  have N3 := Lib.hid (fun (W : World) (A : Option Addr) (c : Nat) (h : Sl W A c zs) => sync_gives ⟨1000, zs, 0, -1, false⟩ A c W h)
  rw [sync1000 zs hzl] at N3
  have H0 := Lib.hid (Holds.start zs hzl)
  clear hfew
  go_enter Try.func7, Try.ntmps7
  go_wp2_with fail
  refine (awake_any _).mono ?_
  rintro e W ⟨rfl, hB⟩
  go_wp2_with fail
  refine (F.out _ (hL.keep hB)).mono ?_
  rintro e W' ⟨rfl, rfl⟩
  go_wp2_with fail
  refine (N1.out _).mono ?_
  rintro e W2 ⟨A7, c7, rfl, hS7, -, hb⟩
  dsimp only [dval, List.length_nil] at hS7 ⊢
  replace hB := below_step hB hb
  clear hb
  go_upto_region 4 with fail
  have b7 := Bx.new W2 (.int .i64 1000) (.slice A7 0 c7) (.int .i64 0) (.int .i64 (-1)) (.bool false)
  have hlo : w.heap.size ≤ W2.heap.size := hB.size
  replace hB := hB.alloc hB.size (.cells #[.int .i64 1000, .slice A7 0 c7, .int .i64 0, .int .i64 (-1), .bool false] 27)
  replace hS7 := hS7.alloc (.cells #[.int .i64 1000, .slice A7 0 c7, .int .i64 0, .int .i64 (-1), .bool false] 27)
  generalize W2.alloc (.cells #[.int .i64 1000, .slice A7 0 c7, .int .i64 0, .int .i64 (-1), .bool false] 27) = V at b7 hB hS7 ⊢
  generalize W2.heap.size = g7 at b7 hlo ⊢
  have q := b7
  obtain ⟨-, k0, k1, k2, k3, k4, kf⟩ := q
  go_wp2_with fail
  refine (N2.out _ A7 c7 hS7 (hz.keep hB)).mono ?_
  rintro e W3 ⟨A8, c8, rfl, hS8, hs8, hb⟩
  dsimp only [dval] at hS8 hs8 ⊢
  have p8 := hs8 g7 b7.lt (fun h => absurd rfl h)
  clear k0 k1 k2 k3 k4 kf hS7 hs8
  replace b7 := b7.keep hb
  replace hB := below_step hB hb
  clear hb
  have q := b7
  obtain ⟨-, k0, k1, k2, k3, k4, kf⟩ := q
  go_upto_region 5 with fail
  clear k0 k1 k2 k3 k4 kf
  replace b7 := b7.store (.int .i64 1000) (.slice A8 zs.length c8) (.int .i64 0) (.int .i64 (-1)) (.bool false)
  replace hS8 := (Sl.setCell (Sl.setCell (Sl.setCell (Sl.setCell (Sl.setCell hS8 ⟨g7, 0, none⟩ (.int .i64 1000) p8) ⟨g7, 1, none⟩ (.slice A8 zs.length c8) p8) ⟨g7, 2, none⟩ (.int .i64 0) p8) ⟨g7, 3, none⟩ (.int .i64 (-1)) p8) ⟨g7, 4, none⟩ (.bool false) p8)
  replace hB : Below w.heap.size w (((((W3.setCell ⟨g7, 0, none⟩ (.int .i64 1000)).setCell ⟨g7, 1, none⟩ (.slice A8 zs.length c8)).setCell ⟨g7, 2, none⟩ (.int .i64 0)).setCell ⟨g7, 3, none⟩ (.int .i64 (-1))).setCell ⟨g7, 4, none⟩ (.bool false)) := by (repeat' (first | (with_reducible exact hB) | (with_reducible exact Below.refl _ _) | (with_reducible refine Below.setCell ?_ ?_ _) | (with_reducible refine Below.alloc ?_ ?_ _) | (with_reducible refine Below.drew ?_) | (simp; done) | omega | (simp; omega)))
  generalize (((((W3.setCell ⟨g7, 0, none⟩ (.int .i64 1000)).setCell ⟨g7, 1, none⟩ (.slice A8 zs.length c8)).setCell ⟨g7, 2, none⟩ (.int .i64 0)).setCell ⟨g7, 3, none⟩ (.int .i64 (-1))).setCell ⟨g7, 4, none⟩ (.bool false)) = V2 at b7 hS8 hB ⊢
  have q := b7
  obtain ⟨-, k0, k1, k2, k3, k4, kf⟩ := q
  go_wp2_with fail
  refine (N3.out _ A8 c8 hS8).mono ?_
  rintro e W4 ⟨A9, c9, rfl, hS9, hs9, hb⟩
  dsimp only [dval] at hS9 hs9 ⊢
  have p9 := hs9 g7 b7.lt p8
  clear k0 k1 k2 k3 k4 kf hS8 hs9 p8
  replace b7 := b7.keep hb
  replace hB := below_step hB hb
  clear hb
  have q := b7
  obtain ⟨-, k0, k1, k2, k3, k4, kf⟩ := q
  go_upto_region 6 with fail
  clear k0 k1 k2 k3 k4 kf
  replace b7 := b7.store (.int .i64 1000) (.slice A9 zs.length c9) (.int .i64 zs.length) (.int .i64 (-1)) (.bool false)
  replace hS9 := (Sl.setCell (Sl.setCell (Sl.setCell (Sl.setCell (Sl.setCell hS9 ⟨g7, 0, none⟩ (.int .i64 1000) p9) ⟨g7, 1, none⟩ (.slice A9 zs.length c9) p9) ⟨g7, 2, none⟩ (.int .i64 zs.length) p9) ⟨g7, 3, none⟩ (.int .i64 (-1)) p9) ⟨g7, 4, none⟩ (.bool false) p9)
  replace hB : Below w.heap.size w (((((W4.setCell ⟨g7, 0, none⟩ (.int .i64 1000)).setCell ⟨g7, 1, none⟩ (.slice A9 zs.length c9)).setCell ⟨g7, 2, none⟩ (.int .i64 zs.length)).setCell ⟨g7, 3, none⟩ (.int .i64 (-1))).setCell ⟨g7, 4, none⟩ (.bool false)) := by (repeat' (first | (with_reducible exact hB) | (with_reducible exact Below.refl _ _) | (with_reducible refine Below.setCell ?_ ?_ _) | (with_reducible refine Below.alloc ?_ ?_ _) | (with_reducible refine Below.drew ?_) | (simp; done) | omega | (simp; omega)))
  generalize (((((W4.setCell ⟨g7, 0, none⟩ (.int .i64 1000)).setCell ⟨g7, 1, none⟩ (.slice A9 zs.length c9)).setCell ⟨g7, 2, none⟩ (.int .i64 zs.length)).setCell ⟨g7, 3, none⟩ (.int .i64 (-1))).setCell ⟨g7, 4, none⟩ (.bool false)) = V3 at b7 hS9 hB ⊢
  have hst : Sk w g7 1000 zs zs.length (-1) false A9 c9 V3 := ⟨b7, hS9, p9, hlo, hB⟩
  clear b7 hS9 p9 hlo hB
  go_wp2_with fail
  go_loopw [11] (fun i V => Inv w g7 L.length zs i V) (fun i _ => L.length - (intOf i).toNat)
  case atStart => exact Inv.mk w g7 L.length zs _ _ 0 1000 zs zs.length (-1) false A9 c9 (Nat.zero_le _) rfl H0.out hst
  case round =>
    clear hst
    obtain ⟨k, s, xs, du, le, dn, A7, c7, hk, rfl, hd, hst⟩ := hrel
    by_cases hlt : k < L.length
    · have hgo := List.getElem?_eq_getElem hlt
      generalize L[k] = o at hgo
      obtain ⟨b, off, rfl, hat0⟩ := hL.at_ k o hgo
      have hops_at : ∀ V : World, Below w.heap.size w V → OpAt V b (off + k * 3) o := fun V hB => hat0.keep hB
      have ho := HF.out k o hgo
      have HO0 := Lib.hid hops_at
      clear hat0 hgo hops_at
      obtain ⟨kd, m, B, cb, ys⟩ := o
      simp only at ho
      have hfine := actF_fine hd.1 kd m ys
      have HD := Lib.hid hd
      have G1 := Lib.hid (fun (W : World) (h : Sl W A7 c7 xs) (h2 : Sl W B cb ys) => act_gives ⟨s, xs, du, le, dn⟩ A7 c7 kd m B cb ys W h h2)
      by_cases h5 : kd = 5
      · clear hfine hd
        generalize actF ⟨s, xs, du, le, dn⟩ kd m ys = r at G1
        obtain ⟨⟨s2, xs2, du2, le2, dn2⟩, x⟩ := r
        have hk1 : (kd != 5) = false := by simp [h5]
        have hk2 : (kd == 5) = true := by simp [h5]
        clear h5
        go_upto_region 11 with fail
        have hop := HO0.out _ hst.bel
        have MK := Lib.hid (fun (X : World) (h : Below wr.heap.size wr X) => (⟨⟨(hst.b7.keep h).c0, (hst.b7.keep h).c1, (hst.b7.keep h).c2, (hst.b7.keep h).c3, (hst.b7.keep h).c4, (hop.keep h).c0, (hop.keep h).c1, (hop.keep h).c2⟩, h⟩ : (X.cell? ⟨g7, 0, none⟩ = some (.int .i64 s) ∧ X.cell? ⟨g7, 1, none⟩ = some (.slice A7 xs.length c7) ∧ X.cell? ⟨g7, 2, none⟩ = some (.int .i64 du) ∧ X.cell? ⟨g7, 3, none⟩ = some (.int .i64 le) ∧ X.cell? ⟨g7, 4, none⟩ = some (.bool dn) ∧ X.cell? ⟨b, off + k * 3, none⟩ = some (.int .i64 kd) ∧ X.cell? ⟨b, off + k * 3 + 1, none⟩ = some (.int .i64 m) ∧ X.cell? ⟨b, off + k * 3 + 2, none⟩ = some (.slice B ys.length cb)) ∧ Below wr.heap.size wr X))
        have hS := MK.out _ (Below.refl _ _).drew
        go_cut [12, 13] from 49 to 78 (fun p q wx => Mid w g7 s xs du le dn A7 c7 s2 xs2 du2 le2 dn2 x p q wx)
        case first =>
          go_region_held3 (fun X => (X.cell? ⟨g7, 0, none⟩ = some (.int .i64 s) ∧ X.cell? ⟨g7, 1, none⟩ = some (.slice A7 xs.length c7) ∧ X.cell? ⟨g7, 2, none⟩ = some (.int .i64 du) ∧ X.cell? ⟨g7, 3, none⟩ = some (.int .i64 le) ∧ X.cell? ⟨g7, 4, none⟩ = some (.bool dn) ∧ X.cell? ⟨b, off + k * 3, none⟩ = some (.int .i64 kd) ∧ X.cell? ⟨b, off + k * 3 + 1, none⟩ = some (.int .i64 m) ∧ X.cell? ⟨b, off + k * 3 + 2, none⟩ = some (.slice B ys.length cb)) ∧ Below wr.heap.size wr X)
            (first
              | with_reducible exact hS
              | with_reducible exact hS2
              | (refine MK.out _ ?_; (repeat' (first | (with_reducible exact hB0) | (with_reducible exact Below.refl _ _) | (with_reducible refine Below.setCell ?_ ?_ _) | (with_reducible refine Below.alloc ?_ ?_ _) | (with_reducible refine Below.drew ?_) | (simp; done) | omega | (simp; omega)))))
            (first
              | (go_at_call 13; refine (G1.out _ (hst.s7.keep (by (repeat' (first | (with_reducible exact hB0) | (with_reducible exact Below.refl _ _) | (with_reducible refine Below.setCell ?_ ?_ _) | (with_reducible refine Below.alloc ?_ ?_ _) | (with_reducible refine Below.drew ?_) | (simp; done) | omega | (simp; omega))))) (hop.sl.keep (by (repeat' (first | (with_reducible exact hB0) | (with_reducible exact Below.refl _ _) | (with_reducible refine Below.setCell ?_ ?_ _) | (with_reducible refine Below.alloc ?_ ?_ _) | (with_reducible refine Below.drew ?_) | (simp; done) | omega | (simp; omega)))))).mono ?_; rintro e W ⟨A10, c10, rfl, hS10, hs10, hb⟩; (dsimp only [dval] at hS10 hs10 ⊢); (have hB0 : Below wr.heap.size wr W := below_step (by (repeat' (first | (with_reducible exact hB0) | (with_reducible exact Below.refl _ _) | (with_reducible refine Below.setCell ?_ ?_ _) | (with_reducible refine Below.alloc ?_ ?_ _) | (with_reducible refine Below.drew ?_) | (simp; done) | omega | (simp; omega)))) hb); (have hS2 := MK.out _ hB0); (have hz2 := hB0.size); (first | (have bz : Bx W wr.heap.size (.int .i64 0) (.slice none 0 0) (.int .i64 0) (.int .i64 0) (.bool false) := (Bx.new wr.drew (.int .i64 0) (.slice none 0 0) (.int .i64 0) (.int .i64 0) (.bool false)).keep hb; have z5 := bz.lt; obtain ⟨-, z0, z1, z2, z3, z4, zf⟩ := bz) | (have bz : Bx W wr.heap.size (.int .i64 0) (.slice none 0 0) (.int .i64 0) (.int .i64 0) (.bool false) := ((Bx.new wr (.int .i64 0) (.slice none 0 0) (.int .i64 0) (.int .i64 0) (.bool false)).keep (Below.refl _ _).drew).keep hb; have z5 := bz.lt; obtain ⟨-, z0, z1, z2, z3, z4, zf⟩ := bz) | skip)))
          · go_wp2_with fail
            go_meet
            have pg7 := hs10 g7 (by have := hst.b7.lt; simp; omega) hst.p77
            have bel : Below wr.heap.size wr (W.alloc (.cells #[.int .i64 s2, .slice A10 xs2.length c10, .int .i64 du2, .int .i64 le2, .bool dn2] 27)) := by (repeat' (first | (with_reducible exact hB0) | (with_reducible exact Below.refl _ _) | (with_reducible refine Below.setCell ?_ ?_ _) | (with_reducible refine Below.alloc ?_ ?_ _) | (with_reducible refine Below.drew ?_) | (simp; done) | omega | (simp; omega)))
            exact ⟨W.heap.size, A10, c10, rfl, rfl, by have := hst.b7.lt; omega, (Bx.new W (.int .i64 s2) (.slice A10 xs2.length c10) (.int .i64 du2) (.int .i64 le2) (.bool dn2)), (hS10.alloc _), pg7, hst.keep bel⟩
          · go_wp2_with fail
            go_meet
            have pg7 := hs10 g7 (by have := hst.b7.lt; simp; omega) hst.p77
            have pz := hs10 wr.heap.size (by simp) (hst.s7.apart (Nat.le_refl _))
            have bel : Below wr.heap.size wr ((((((W.setCell ⟨wr.heap.size, 0, none⟩ (.int .i64 s2)).setCell ⟨wr.heap.size, 1, none⟩ (.slice A10 xs2.length c10)).setCell ⟨wr.heap.size, 2, none⟩ (.int .i64 du2)).setCell ⟨wr.heap.size, 3, none⟩ (.int .i64 le2)).setCell ⟨wr.heap.size, 4, none⟩ (.bool dn2))) := by (repeat' (first | (with_reducible exact hB0) | (with_reducible exact Below.refl _ _) | (with_reducible refine Below.setCell ?_ ?_ _) | (with_reducible refine Below.alloc ?_ ?_ _) | (with_reducible refine Below.drew ?_) | (simp; done) | omega | (simp; omega)))
            exact ⟨wr.heap.size, A10, c10, rfl, rfl, by have := hst.b7.lt; omega, ((⟨z5, z0, z1, z2, z3, z4, zf⟩ : Bx W wr.heap.size _ _ _ _ _).store (.int .i64 s2) (.slice A10 xs2.length c10) (.int .i64 du2) (.int .i64 le2) (.bool dn2)), (Sl.setCell (Sl.setCell (Sl.setCell (Sl.setCell (Sl.setCell hS10 ⟨wr.heap.size, 0, none⟩ (.int .i64 s2) pz) ⟨wr.heap.size, 1, none⟩ (.slice A10 xs2.length c10) pz) ⟨wr.heap.size, 2, none⟩ (.int .i64 du2) pz) ⟨wr.heap.size, 3, none⟩ (.int .i64 le2) pz) ⟨wr.heap.size, 4, none⟩ (.bool dn2) pz), pg7, hst.keep bel⟩
        case rest =>
        have hop2 := HO0.out _ hst.bel
        clear MK hS hop hst hop2
        obtain ⟨g10, A10, c10, rfl, rfl, hl10, b10, hS10, pa7, hst⟩ := hcut
        have hop := HO0.out _ hst.bel
        have p0 := hop.c0
        go_wp2
        go_roundw
        case rel => exact Inv.mk w g7 L.length zs _ _ (k + 1) s xs du le dn A7 c7 (by omega) (by go_num) HD.out hst
        case measure => simp [intOf]; omega
      have HA := Lib.hid (hd.act h5 m ys)
      have hk1 : (kd != 5) = true := by simpa using h5
      have hk2 : (kd == 5) = false := by simpa using h5
      clear hd
      generalize actF ⟨s, xs, du, le, dn⟩ kd m ys = r at G1 hfine HA
      obtain ⟨⟨s2, xs2, du2, le2, dn2⟩, x⟩ := r
      clear h5
      rcases hfine with ⟨h1, h2, h3⟩ | ⟨h1, h2, h3⟩ | h1 | h1
      · simp only at h1 h2 h3
        subst h1 h3
        have HO := Lib.hid (HA.out (.inl rfl))
        clear HA h2
        go_upto_region 11 with fail
        have hop := HO0.out _ hst.bel
        have MK := Lib.hid (fun (X : World) (h : Below wr.heap.size wr X) => (⟨⟨(hst.b7.keep h).c0, (hst.b7.keep h).c1, (hst.b7.keep h).c2, (hst.b7.keep h).c3, (hst.b7.keep h).c4, (hop.keep h).c0, (hop.keep h).c1, (hop.keep h).c2⟩, h⟩ : (X.cell? ⟨g7, 0, none⟩ = some (.int .i64 s) ∧ X.cell? ⟨g7, 1, none⟩ = some (.slice A7 xs.length c7) ∧ X.cell? ⟨g7, 2, none⟩ = some (.int .i64 du) ∧ X.cell? ⟨g7, 3, none⟩ = some (.int .i64 le) ∧ X.cell? ⟨g7, 4, none⟩ = some (.bool dn) ∧ X.cell? ⟨b, off + k * 3, none⟩ = some (.int .i64 kd) ∧ X.cell? ⟨b, off + k * 3 + 1, none⟩ = some (.int .i64 m) ∧ X.cell? ⟨b, off + k * 3 + 2, none⟩ = some (.slice B ys.length cb)) ∧ Below wr.heap.size wr X))
        have hS := MK.out _ (Below.refl _ _).drew
        go_cut [12, 13] from 49 to 78 (fun p q wx => Mid w g7 s xs du le dn A7 c7 s2 xs2 du2 le2 false 0 p q wx)
        case first =>
          go_region_held3 (fun X => (X.cell? ⟨g7, 0, none⟩ = some (.int .i64 s) ∧ X.cell? ⟨g7, 1, none⟩ = some (.slice A7 xs.length c7) ∧ X.cell? ⟨g7, 2, none⟩ = some (.int .i64 du) ∧ X.cell? ⟨g7, 3, none⟩ = some (.int .i64 le) ∧ X.cell? ⟨g7, 4, none⟩ = some (.bool dn) ∧ X.cell? ⟨b, off + k * 3, none⟩ = some (.int .i64 kd) ∧ X.cell? ⟨b, off + k * 3 + 1, none⟩ = some (.int .i64 m) ∧ X.cell? ⟨b, off + k * 3 + 2, none⟩ = some (.slice B ys.length cb)) ∧ Below wr.heap.size wr X)
            (first
              | with_reducible exact hS
              | with_reducible exact hS2
              | (refine MK.out _ ?_; (repeat' (first | (with_reducible exact hB0) | (with_reducible exact Below.refl _ _) | (with_reducible refine Below.setCell ?_ ?_ _) | (with_reducible refine Below.alloc ?_ ?_ _) | (with_reducible refine Below.drew ?_) | (simp; done) | omega | (simp; omega)))))
            (first
              | (go_at_call 13; refine (G1.out _ (hst.s7.keep (by (repeat' (first | (with_reducible exact hB0) | (with_reducible exact Below.refl _ _) | (with_reducible refine Below.setCell ?_ ?_ _) | (with_reducible refine Below.alloc ?_ ?_ _) | (with_reducible refine Below.drew ?_) | (simp; done) | omega | (simp; omega))))) (hop.sl.keep (by (repeat' (first | (with_reducible exact hB0) | (with_reducible exact Below.refl _ _) | (with_reducible refine Below.setCell ?_ ?_ _) | (with_reducible refine Below.alloc ?_ ?_ _) | (with_reducible refine Below.drew ?_) | (simp; done) | omega | (simp; omega)))))).mono ?_; rintro e W ⟨A10, c10, rfl, hS10, hs10, hb⟩; (dsimp only [dval] at hS10 hs10 ⊢); (have hB0 : Below wr.heap.size wr W := below_step (by (repeat' (first | (with_reducible exact hB0) | (with_reducible exact Below.refl _ _) | (with_reducible refine Below.setCell ?_ ?_ _) | (with_reducible refine Below.alloc ?_ ?_ _) | (with_reducible refine Below.drew ?_) | (simp; done) | omega | (simp; omega)))) hb); (have hS2 := MK.out _ hB0); (have hz2 := hB0.size); (first | (have bz : Bx W wr.heap.size (.int .i64 0) (.slice none 0 0) (.int .i64 0) (.int .i64 0) (.bool false) := (Bx.new wr.drew (.int .i64 0) (.slice none 0 0) (.int .i64 0) (.int .i64 0) (.bool false)).keep hb; have z5 := bz.lt; obtain ⟨-, z0, z1, z2, z3, z4, zf⟩ := bz) | (have bz : Bx W wr.heap.size (.int .i64 0) (.slice none 0 0) (.int .i64 0) (.int .i64 0) (.bool false) := ((Bx.new wr (.int .i64 0) (.slice none 0 0) (.int .i64 0) (.int .i64 0) (.bool false)).keep (Below.refl _ _).drew).keep hb; have z5 := bz.lt; obtain ⟨-, z0, z1, z2, z3, z4, zf⟩ := bz) | skip)))
          · go_wp2_with fail
            go_meet
            have pg7 := hs10 g7 (by have := hst.b7.lt; simp; omega) hst.p77
            have bel : Below wr.heap.size wr (W.alloc (.cells #[.int .i64 s2, .slice A10 xs2.length c10, .int .i64 du2, .int .i64 le2, .bool false] 27)) := by (repeat' (first | (with_reducible exact hB0) | (with_reducible exact Below.refl _ _) | (with_reducible refine Below.setCell ?_ ?_ _) | (with_reducible refine Below.alloc ?_ ?_ _) | (with_reducible refine Below.drew ?_) | (simp; done) | omega | (simp; omega)))
            exact ⟨W.heap.size, A10, c10, rfl, rfl, by have := hst.b7.lt; omega, (Bx.new W (.int .i64 s2) (.slice A10 xs2.length c10) (.int .i64 du2) (.int .i64 le2) (.bool false)), (hS10.alloc _), pg7, hst.keep bel⟩
          · go_wp2_with fail
            go_meet
            have pg7 := hs10 g7 (by have := hst.b7.lt; simp; omega) hst.p77
            have pz := hs10 wr.heap.size (by simp) (hst.s7.apart (Nat.le_refl _))
            have bel : Below wr.heap.size wr ((((((W.setCell ⟨wr.heap.size, 0, none⟩ (.int .i64 s2)).setCell ⟨wr.heap.size, 1, none⟩ (.slice A10 xs2.length c10)).setCell ⟨wr.heap.size, 2, none⟩ (.int .i64 du2)).setCell ⟨wr.heap.size, 3, none⟩ (.int .i64 le2)).setCell ⟨wr.heap.size, 4, none⟩ (.bool false))) := by (repeat' (first | (with_reducible exact hB0) | (with_reducible exact Below.refl _ _) | (with_reducible refine Below.setCell ?_ ?_ _) | (with_reducible refine Below.alloc ?_ ?_ _) | (with_reducible refine Below.drew ?_) | (simp; done) | omega | (simp; omega)))
            exact ⟨wr.heap.size, A10, c10, rfl, rfl, by have := hst.b7.lt; omega, ((⟨z5, z0, z1, z2, z3, z4, zf⟩ : Bx W wr.heap.size _ _ _ _ _).store (.int .i64 s2) (.slice A10 xs2.length c10) (.int .i64 du2) (.int .i64 le2) (.bool false)), (Sl.setCell (Sl.setCell (Sl.setCell (Sl.setCell (Sl.setCell hS10 ⟨wr.heap.size, 0, none⟩ (.int .i64 s2) pz) ⟨wr.heap.size, 1, none⟩ (.slice A10 xs2.length c10) pz) ⟨wr.heap.size, 2, none⟩ (.int .i64 du2) pz) ⟨wr.heap.size, 3, none⟩ (.int .i64 le2) pz) ⟨wr.heap.size, 4, none⟩ (.bool false) pz), pg7, hst.keep bel⟩
        case rest =>
        have hop2 := HO0.out _ hst.bel
        clear MK hS hop hst hop2
        obtain ⟨g10, A10, c10, rfl, rfl, hl10, b10, hS10, pa7, hst⟩ := hcut
        have hop := HO0.out _ hst.bel
        have p0 := hop.c0
        have q := b10
        obtain ⟨-, k0, k1, k2, k3, k4, kf⟩ := q
        have q := hst.b7
        obtain ⟨-, j0, j1, j2, j3, j4, jf⟩ := q
        go_upto_region 10 with fail
        clear k0 k1 k2 k3 k4 kf j0 j1 j2 j3 j4 jf p0 hop
        obtain ⟨b7, -, -, hlo, hB⟩ := hst
        replace b7 := b7.store (.int .i64 s2) (.slice A10 xs2.length c10) (.int .i64 du2) (.int .i64 le2) (.bool false)
        replace hS10 := (Sl.setCell (Sl.setCell (Sl.setCell (Sl.setCell (Sl.setCell hS10 ⟨g7, 0, none⟩ (.int .i64 s2) pa7) ⟨g7, 1, none⟩ (.slice A10 xs2.length c10) pa7) ⟨g7, 2, none⟩ (.int .i64 du2) pa7) ⟨g7, 3, none⟩ (.int .i64 le2) pa7) ⟨g7, 4, none⟩ (.bool false) pa7)
        replace hB : Below w.heap.size w (((((wc.setCell ⟨g7, 0, none⟩ (.int .i64 s2)).setCell ⟨g7, 1, none⟩ (.slice A10 xs2.length c10)).setCell ⟨g7, 2, none⟩ (.int .i64 du2)).setCell ⟨g7, 3, none⟩ (.int .i64 le2)).setCell ⟨g7, 4, none⟩ (.bool false)) := by (repeat' (first | (with_reducible exact hB) | (with_reducible exact Below.refl _ _) | (with_reducible refine Below.setCell ?_ ?_ _) | (with_reducible refine Below.alloc ?_ ?_ _) | (with_reducible refine Below.drew ?_) | (simp; done) | omega | (simp; omega)))
        clear b10
        generalize (((((wc.setCell ⟨g7, 0, none⟩ (.int .i64 s2)).setCell ⟨g7, 1, none⟩ (.slice A10 xs2.length c10)).setCell ⟨g7, 2, none⟩ (.int .i64 du2)).setCell ⟨g7, 3, none⟩ (.int .i64 le2)).setCell ⟨g7, 4, none⟩ (.bool false)) = V6 at b7 hS10 hB ⊢
        go_wp2
        go_roundw
        case rel => exact Inv.mk w g7 L.length zs _ _ (k + 1) s2 xs2 du2 le2 false A10 c10 (by omega) (by go_num) HO.out ⟨b7, hS10, pa7, hlo, hB⟩
        case measure => simp [intOf]; omega
      · simp only at h1 h2 h3
        subst h1 h3
        have HO := Lib.hid (HA.out (.inr rfl))
        clear HA h2
        go_upto_region 11 with fail
        have hop := HO0.out _ hst.bel
        have MK := Lib.hid (fun (X : World) (h : Below wr.heap.size wr X) => (⟨⟨(hst.b7.keep h).c0, (hst.b7.keep h).c1, (hst.b7.keep h).c2, (hst.b7.keep h).c3, (hst.b7.keep h).c4, (hop.keep h).c0, (hop.keep h).c1, (hop.keep h).c2⟩, h⟩ : (X.cell? ⟨g7, 0, none⟩ = some (.int .i64 s) ∧ X.cell? ⟨g7, 1, none⟩ = some (.slice A7 xs.length c7) ∧ X.cell? ⟨g7, 2, none⟩ = some (.int .i64 du) ∧ X.cell? ⟨g7, 3, none⟩ = some (.int .i64 le) ∧ X.cell? ⟨g7, 4, none⟩ = some (.bool dn) ∧ X.cell? ⟨b, off + k * 3, none⟩ = some (.int .i64 kd) ∧ X.cell? ⟨b, off + k * 3 + 1, none⟩ = some (.int .i64 m) ∧ X.cell? ⟨b, off + k * 3 + 2, none⟩ = some (.slice B ys.length cb)) ∧ Below wr.heap.size wr X))
        have hS := MK.out _ (Below.refl _ _).drew
        go_cut [12, 13] from 49 to 78 (fun p q wx => Mid w g7 s xs du le dn A7 c7 s2 xs2 du2 le2 true 19 p q wx)
        case first =>
          go_region_held3 (fun X => (X.cell? ⟨g7, 0, none⟩ = some (.int .i64 s) ∧ X.cell? ⟨g7, 1, none⟩ = some (.slice A7 xs.length c7) ∧ X.cell? ⟨g7, 2, none⟩ = some (.int .i64 du) ∧ X.cell? ⟨g7, 3, none⟩ = some (.int .i64 le) ∧ X.cell? ⟨g7, 4, none⟩ = some (.bool dn) ∧ X.cell? ⟨b, off + k * 3, none⟩ = some (.int .i64 kd) ∧ X.cell? ⟨b, off + k * 3 + 1, none⟩ = some (.int .i64 m) ∧ X.cell? ⟨b, off + k * 3 + 2, none⟩ = some (.slice B ys.length cb)) ∧ Below wr.heap.size wr X)
            (first
              | with_reducible exact hS
              | with_reducible exact hS2
              | (refine MK.out _ ?_; (repeat' (first | (with_reducible exact hB0) | (with_reducible exact Below.refl _ _) | (with_reducible refine Below.setCell ?_ ?_ _) | (with_reducible refine Below.alloc ?_ ?_ _) | (with_reducible refine Below.drew ?_) | (simp; done) | omega | (simp; omega)))))
            (first
              | (go_at_call 13; refine (G1.out _ (hst.s7.keep (by (repeat' (first | (with_reducible exact hB0) | (with_reducible exact Below.refl _ _) | (with_reducible refine Below.setCell ?_ ?_ _) | (with_reducible refine Below.alloc ?_ ?_ _) | (with_reducible refine Below.drew ?_) | (simp; done) | omega | (simp; omega))))) (hop.sl.keep (by (repeat' (first | (with_reducible exact hB0) | (with_reducible exact Below.refl _ _) | (with_reducible refine Below.setCell ?_ ?_ _) | (with_reducible refine Below.alloc ?_ ?_ _) | (with_reducible refine Below.drew ?_) | (simp; done) | omega | (simp; omega)))))).mono ?_; rintro e W ⟨A10, c10, rfl, hS10, hs10, hb⟩; (dsimp only [dval] at hS10 hs10 ⊢); (have hB0 : Below wr.heap.size wr W := below_step (by (repeat' (first | (with_reducible exact hB0) | (with_reducible exact Below.refl _ _) | (with_reducible refine Below.setCell ?_ ?_ _) | (with_reducible refine Below.alloc ?_ ?_ _) | (with_reducible refine Below.drew ?_) | (simp; done) | omega | (simp; omega)))) hb); (have hS2 := MK.out _ hB0); (have hz2 := hB0.size); (first | (have bz : Bx W wr.heap.size (.int .i64 0) (.slice none 0 0) (.int .i64 0) (.int .i64 0) (.bool false) := (Bx.new wr.drew (.int .i64 0) (.slice none 0 0) (.int .i64 0) (.int .i64 0) (.bool false)).keep hb; have z5 := bz.lt; obtain ⟨-, z0, z1, z2, z3, z4, zf⟩ := bz) | (have bz : Bx W wr.heap.size (.int .i64 0) (.slice none 0 0) (.int .i64 0) (.int .i64 0) (.bool false) := ((Bx.new wr (.int .i64 0) (.slice none 0 0) (.int .i64 0) (.int .i64 0) (.bool false)).keep (Below.refl _ _).drew).keep hb; have z5 := bz.lt; obtain ⟨-, z0, z1, z2, z3, z4, zf⟩ := bz) | skip)))
          · go_wp2_with fail
            go_meet
            have pg7 := hs10 g7 (by have := hst.b7.lt; simp; omega) hst.p77
            have bel : Below wr.heap.size wr (W.alloc (.cells #[.int .i64 s2, .slice A10 xs2.length c10, .int .i64 du2, .int .i64 le2, .bool true] 27)) := by (repeat' (first | (with_reducible exact hB0) | (with_reducible exact Below.refl _ _) | (with_reducible refine Below.setCell ?_ ?_ _) | (with_reducible refine Below.alloc ?_ ?_ _) | (with_reducible refine Below.drew ?_) | (simp; done) | omega | (simp; omega)))
            exact ⟨W.heap.size, A10, c10, rfl, rfl, by have := hst.b7.lt; omega, (Bx.new W (.int .i64 s2) (.slice A10 xs2.length c10) (.int .i64 du2) (.int .i64 le2) (.bool true)), (hS10.alloc _), pg7, hst.keep bel⟩
          · go_wp2_with fail
            go_meet
            have pg7 := hs10 g7 (by have := hst.b7.lt; simp; omega) hst.p77
            have pz := hs10 wr.heap.size (by simp) (hst.s7.apart (Nat.le_refl _))
            have bel : Below wr.heap.size wr ((((((W.setCell ⟨wr.heap.size, 0, none⟩ (.int .i64 s2)).setCell ⟨wr.heap.size, 1, none⟩ (.slice A10 xs2.length c10)).setCell ⟨wr.heap.size, 2, none⟩ (.int .i64 du2)).setCell ⟨wr.heap.size, 3, none⟩ (.int .i64 le2)).setCell ⟨wr.heap.size, 4, none⟩ (.bool true))) := by (repeat' (first | (with_reducible exact hB0) | (with_reducible exact Below.refl _ _) | (with_reducible refine Below.setCell ?_ ?_ _) | (with_reducible refine Below.alloc ?_ ?_ _) | (with_reducible refine Below.drew ?_) | (simp; done) | omega | (simp; omega)))
            exact ⟨wr.heap.size, A10, c10, rfl, rfl, by have := hst.b7.lt; omega, ((⟨z5, z0, z1, z2, z3, z4, zf⟩ : Bx W wr.heap.size _ _ _ _ _).store (.int .i64 s2) (.slice A10 xs2.length c10) (.int .i64 du2) (.int .i64 le2) (.bool true)), (Sl.setCell (Sl.setCell (Sl.setCell (Sl.setCell (Sl.setCell hS10 ⟨wr.heap.size, 0, none⟩ (.int .i64 s2) pz) ⟨wr.heap.size, 1, none⟩ (.slice A10 xs2.length c10) pz) ⟨wr.heap.size, 2, none⟩ (.int .i64 du2) pz) ⟨wr.heap.size, 3, none⟩ (.int .i64 le2) pz) ⟨wr.heap.size, 4, none⟩ (.bool true) pz), pg7, hst.keep bel⟩
        case rest =>
        have hop2 := HO0.out _ hst.bel
        clear MK hS hop hst hop2
        obtain ⟨g10, A10, c10, rfl, rfl, hl10, b10, hS10, pa7, hst⟩ := hcut
        have hop := HO0.out _ hst.bel
        have p0 := hop.c0
        have q := b10
        obtain ⟨-, k0, k1, k2, k3, k4, kf⟩ := q
        have q := hst.b7
        obtain ⟨-, j0, j1, j2, j3, j4, jf⟩ := q
        go_upto_region 10 with fail
        clear k0 k1 k2 k3 k4 kf j0 j1 j2 j3 j4 jf p0 hop
        obtain ⟨b7, -, -, hlo, hB⟩ := hst
        replace b7 := b7.store (.int .i64 s2) (.slice A10 xs2.length c10) (.int .i64 du2) (.int .i64 le2) (.bool true)
        replace hS10 := (Sl.setCell (Sl.setCell (Sl.setCell (Sl.setCell (Sl.setCell hS10 ⟨g7, 0, none⟩ (.int .i64 s2) pa7) ⟨g7, 1, none⟩ (.slice A10 xs2.length c10) pa7) ⟨g7, 2, none⟩ (.int .i64 du2) pa7) ⟨g7, 3, none⟩ (.int .i64 le2) pa7) ⟨g7, 4, none⟩ (.bool true) pa7)
        replace hB : Below w.heap.size w (((((wc.setCell ⟨g7, 0, none⟩ (.int .i64 s2)).setCell ⟨g7, 1, none⟩ (.slice A10 xs2.length c10)).setCell ⟨g7, 2, none⟩ (.int .i64 du2)).setCell ⟨g7, 3, none⟩ (.int .i64 le2)).setCell ⟨g7, 4, none⟩ (.bool true)) := by (repeat' (first | (with_reducible exact hB) | (with_reducible exact Below.refl _ _) | (with_reducible refine Below.setCell ?_ ?_ _) | (with_reducible refine Below.alloc ?_ ?_ _) | (with_reducible refine Below.drew ?_) | (simp; done) | omega | (simp; omega)))
        clear b10
        generalize (((((wc.setCell ⟨g7, 0, none⟩ (.int .i64 s2)).setCell ⟨g7, 1, none⟩ (.slice A10 xs2.length c10)).setCell ⟨g7, 2, none⟩ (.int .i64 du2)).setCell ⟨g7, 3, none⟩ (.int .i64 le2)).setCell ⟨g7, 4, none⟩ (.bool true)) = V6 at b7 hS10 hB ⊢
        go_wp2
        go_roundw
        case rel => exact Inv.mk w g7 L.length zs _ _ (k + 1) s2 xs2 du2 le2 true A10 c10 (by omega) (by go_num) HO.out ⟨b7, hS10, pa7, hlo, hB⟩
        case measure => simp [intOf]; omega
      · simp only at h1
        subst h1
        clear HA
        go_upto_region 11 with fail
        have hop := HO0.out _ hst.bel
        have MK := Lib.hid (fun (X : World) (h : Below wr.heap.size wr X) => (⟨⟨(hst.b7.keep h).c0, (hst.b7.keep h).c1, (hst.b7.keep h).c2, (hst.b7.keep h).c3, (hst.b7.keep h).c4, (hop.keep h).c0, (hop.keep h).c1, (hop.keep h).c2⟩, h⟩ : (X.cell? ⟨g7, 0, none⟩ = some (.int .i64 s) ∧ X.cell? ⟨g7, 1, none⟩ = some (.slice A7 xs.length c7) ∧ X.cell? ⟨g7, 2, none⟩ = some (.int .i64 du) ∧ X.cell? ⟨g7, 3, none⟩ = some (.int .i64 le) ∧ X.cell? ⟨g7, 4, none⟩ = some (.bool dn) ∧ X.cell? ⟨b, off + k * 3, none⟩ = some (.int .i64 kd) ∧ X.cell? ⟨b, off + k * 3 + 1, none⟩ = some (.int .i64 m) ∧ X.cell? ⟨b, off + k * 3 + 2, none⟩ = some (.slice B ys.length cb)) ∧ Below wr.heap.size wr X))
        have hS := MK.out _ (Below.refl _ _).drew
        go_cut [12, 13] from 49 to 78 (fun p q wx => Mid w g7 s xs du le dn A7 c7 s2 xs2 du2 le2 dn2 2 p q wx)
        case first =>
          go_region_held3 (fun X => (X.cell? ⟨g7, 0, none⟩ = some (.int .i64 s) ∧ X.cell? ⟨g7, 1, none⟩ = some (.slice A7 xs.length c7) ∧ X.cell? ⟨g7, 2, none⟩ = some (.int .i64 du) ∧ X.cell? ⟨g7, 3, none⟩ = some (.int .i64 le) ∧ X.cell? ⟨g7, 4, none⟩ = some (.bool dn) ∧ X.cell? ⟨b, off + k * 3, none⟩ = some (.int .i64 kd) ∧ X.cell? ⟨b, off + k * 3 + 1, none⟩ = some (.int .i64 m) ∧ X.cell? ⟨b, off + k * 3 + 2, none⟩ = some (.slice B ys.length cb)) ∧ Below wr.heap.size wr X)
            (first
              | with_reducible exact hS
              | with_reducible exact hS2
              | (refine MK.out _ ?_; (repeat' (first | (with_reducible exact hB0) | (with_reducible exact Below.refl _ _) | (with_reducible refine Below.setCell ?_ ?_ _) | (with_reducible refine Below.alloc ?_ ?_ _) | (with_reducible refine Below.drew ?_) | (simp; done) | omega | (simp; omega)))))
            (first
              | (go_at_call 13; refine (G1.out _ (hst.s7.keep (by (repeat' (first | (with_reducible exact hB0) | (with_reducible exact Below.refl _ _) | (with_reducible refine Below.setCell ?_ ?_ _) | (with_reducible refine Below.alloc ?_ ?_ _) | (with_reducible refine Below.drew ?_) | (simp; done) | omega | (simp; omega))))) (hop.sl.keep (by (repeat' (first | (with_reducible exact hB0) | (with_reducible exact Below.refl _ _) | (with_reducible refine Below.setCell ?_ ?_ _) | (with_reducible refine Below.alloc ?_ ?_ _) | (with_reducible refine Below.drew ?_) | (simp; done) | omega | (simp; omega)))))).mono ?_; rintro e W ⟨A10, c10, rfl, hS10, hs10, hb⟩; (dsimp only [dval] at hS10 hs10 ⊢); (have hB0 : Below wr.heap.size wr W := below_step (by (repeat' (first | (with_reducible exact hB0) | (with_reducible exact Below.refl _ _) | (with_reducible refine Below.setCell ?_ ?_ _) | (with_reducible refine Below.alloc ?_ ?_ _) | (with_reducible refine Below.drew ?_) | (simp; done) | omega | (simp; omega)))) hb); (have hS2 := MK.out _ hB0); (have hz2 := hB0.size); (first | (have bz : Bx W wr.heap.size (.int .i64 0) (.slice none 0 0) (.int .i64 0) (.int .i64 0) (.bool false) := (Bx.new wr.drew (.int .i64 0) (.slice none 0 0) (.int .i64 0) (.int .i64 0) (.bool false)).keep hb; have z5 := bz.lt; obtain ⟨-, z0, z1, z2, z3, z4, zf⟩ := bz) | (have bz : Bx W wr.heap.size (.int .i64 0) (.slice none 0 0) (.int .i64 0) (.int .i64 0) (.bool false) := ((Bx.new wr (.int .i64 0) (.slice none 0 0) (.int .i64 0) (.int .i64 0) (.bool false)).keep (Below.refl _ _).drew).keep hb; have z5 := bz.lt; obtain ⟨-, z0, z1, z2, z3, z4, zf⟩ := bz) | skip)))
          · go_wp2_with fail
            go_meet
            have pg7 := hs10 g7 (by have := hst.b7.lt; simp; omega) hst.p77
            have bel : Below wr.heap.size wr (W.alloc (.cells #[.int .i64 s2, .slice A10 xs2.length c10, .int .i64 du2, .int .i64 le2, .bool dn2] 27)) := by (repeat' (first | (with_reducible exact hB0) | (with_reducible exact Below.refl _ _) | (with_reducible refine Below.setCell ?_ ?_ _) | (with_reducible refine Below.alloc ?_ ?_ _) | (with_reducible refine Below.drew ?_) | (simp; done) | omega | (simp; omega)))
            exact ⟨W.heap.size, A10, c10, rfl, rfl, by have := hst.b7.lt; omega, (Bx.new W (.int .i64 s2) (.slice A10 xs2.length c10) (.int .i64 du2) (.int .i64 le2) (.bool dn2)), (hS10.alloc _), pg7, hst.keep bel⟩
          · go_wp2_with fail
            go_meet
            have pg7 := hs10 g7 (by have := hst.b7.lt; simp; omega) hst.p77
            have pz := hs10 wr.heap.size (by simp) (hst.s7.apart (Nat.le_refl _))
            have bel : Below wr.heap.size wr ((((((W.setCell ⟨wr.heap.size, 0, none⟩ (.int .i64 s2)).setCell ⟨wr.heap.size, 1, none⟩ (.slice A10 xs2.length c10)).setCell ⟨wr.heap.size, 2, none⟩ (.int .i64 du2)).setCell ⟨wr.heap.size, 3, none⟩ (.int .i64 le2)).setCell ⟨wr.heap.size, 4, none⟩ (.bool dn2))) := by (repeat' (first | (with_reducible exact hB0) | (with_reducible exact Below.refl _ _) | (with_reducible refine Below.setCell ?_ ?_ _) | (with_reducible refine Below.alloc ?_ ?_ _) | (with_reducible refine Below.drew ?_) | (simp; done) | omega | (simp; omega)))
            exact ⟨wr.heap.size, A10, c10, rfl, rfl, by have := hst.b7.lt; omega, ((⟨z5, z0, z1, z2, z3, z4, zf⟩ : Bx W wr.heap.size _ _ _ _ _).store (.int .i64 s2) (.slice A10 xs2.length c10) (.int .i64 du2) (.int .i64 le2) (.bool dn2)), (Sl.setCell (Sl.setCell (Sl.setCell (Sl.setCell (Sl.setCell hS10 ⟨wr.heap.size, 0, none⟩ (.int .i64 s2) pz) ⟨wr.heap.size, 1, none⟩ (.slice A10 xs2.length c10) pz) ⟨wr.heap.size, 2, none⟩ (.int .i64 du2) pz) ⟨wr.heap.size, 3, none⟩ (.int .i64 le2) pz) ⟨wr.heap.size, 4, none⟩ (.bool dn2) pz), pg7, hst.keep bel⟩
        case rest =>
        have hop2 := HO0.out _ hst.bel
        clear MK hS hop hst hop2
        obtain ⟨g10, A10, c10, rfl, rfl, hl10, b10, hS10, pa7, hst⟩ := hcut
        have hop := HO0.out _ hst.bel
        have p0 := hop.c0
        go_wp2
        go_roundw
        case rel => exact Inv.mk w g7 L.length zs _ _ (k + 1) s xs du le dn A7 c7 (by omega) (by go_num) HD.out hst
        case measure => simp [intOf]; omega
      · simp only at h1
        subst h1
        clear HA
        go_upto_region 11 with fail
        have hop := HO0.out _ hst.bel
        have MK := Lib.hid (fun (X : World) (h : Below wr.heap.size wr X) => (⟨⟨(hst.b7.keep h).c0, (hst.b7.keep h).c1, (hst.b7.keep h).c2, (hst.b7.keep h).c3, (hst.b7.keep h).c4, (hop.keep h).c0, (hop.keep h).c1, (hop.keep h).c2⟩, h⟩ : (X.cell? ⟨g7, 0, none⟩ = some (.int .i64 s) ∧ X.cell? ⟨g7, 1, none⟩ = some (.slice A7 xs.length c7) ∧ X.cell? ⟨g7, 2, none⟩ = some (.int .i64 du) ∧ X.cell? ⟨g7, 3, none⟩ = some (.int .i64 le) ∧ X.cell? ⟨g7, 4, none⟩ = some (.bool dn) ∧ X.cell? ⟨b, off + k * 3, none⟩ = some (.int .i64 kd) ∧ X.cell? ⟨b, off + k * 3 + 1, none⟩ = some (.int .i64 m) ∧ X.cell? ⟨b, off + k * 3 + 2, none⟩ = some (.slice B ys.length cb)) ∧ Below wr.heap.size wr X))
        have hS := MK.out _ (Below.refl _ _).drew
        go_cut [12, 13] from 49 to 78 (fun p q wx => Mid w g7 s xs du le dn A7 c7 s2 xs2 du2 le2 dn2 6 p q wx)
        case first =>
          go_region_held3 (fun X => (X.cell? ⟨g7, 0, none⟩ = some (.int .i64 s) ∧ X.cell? ⟨g7, 1, none⟩ = some (.slice A7 xs.length c7) ∧ X.cell? ⟨g7, 2, none⟩ = some (.int .i64 du) ∧ X.cell? ⟨g7, 3, none⟩ = some (.int .i64 le) ∧ X.cell? ⟨g7, 4, none⟩ = some (.bool dn) ∧ X.cell? ⟨b, off + k * 3, none⟩ = some (.int .i64 kd) ∧ X.cell? ⟨b, off + k * 3 + 1, none⟩ = some (.int .i64 m) ∧ X.cell? ⟨b, off + k * 3 + 2, none⟩ = some (.slice B ys.length cb)) ∧ Below wr.heap.size wr X)
            (first
              | with_reducible exact hS
              | with_reducible exact hS2
              | (refine MK.out _ ?_; (repeat' (first | (with_reducible exact hB0) | (with_reducible exact Below.refl _ _) | (with_reducible refine Below.setCell ?_ ?_ _) | (with_reducible refine Below.alloc ?_ ?_ _) | (with_reducible refine Below.drew ?_) | (simp; done) | omega | (simp; omega)))))
            (first
              | (go_at_call 13; refine (G1.out _ (hst.s7.keep (by (repeat' (first | (with_reducible exact hB0) | (with_reducible exact Below.refl _ _) | (with_reducible refine Below.setCell ?_ ?_ _) | (with_reducible refine Below.alloc ?_ ?_ _) | (with_reducible refine Below.drew ?_) | (simp; done) | omega | (simp; omega))))) (hop.sl.keep (by (repeat' (first | (with_reducible exact hB0) | (with_reducible exact Below.refl _ _) | (with_reducible refine Below.setCell ?_ ?_ _) | (with_reducible refine Below.alloc ?_ ?_ _) | (with_reducible refine Below.drew ?_) | (simp; done) | omega | (simp; omega)))))).mono ?_; rintro e W ⟨A10, c10, rfl, hS10, hs10, hb⟩; (dsimp only [dval] at hS10 hs10 ⊢); (have hB0 : Below wr.heap.size wr W := below_step (by (repeat' (first | (with_reducible exact hB0) | (with_reducible exact Below.refl _ _) | (with_reducible refine Below.setCell ?_ ?_ _) | (with_reducible refine Below.alloc ?_ ?_ _) | (with_reducible refine Below.drew ?_) | (simp; done) | omega | (simp; omega)))) hb); (have hS2 := MK.out _ hB0); (have hz2 := hB0.size); (first | (have bz : Bx W wr.heap.size (.int .i64 0) (.slice none 0 0) (.int .i64 0) (.int .i64 0) (.bool false) := (Bx.new wr.drew (.int .i64 0) (.slice none 0 0) (.int .i64 0) (.int .i64 0) (.bool false)).keep hb; have z5 := bz.lt; obtain ⟨-, z0, z1, z2, z3, z4, zf⟩ := bz) | (have bz : Bx W wr.heap.size (.int .i64 0) (.slice none 0 0) (.int .i64 0) (.int .i64 0) (.bool false) := ((Bx.new wr (.int .i64 0) (.slice none 0 0) (.int .i64 0) (.int .i64 0) (.bool false)).keep (Below.refl _ _).drew).keep hb; have z5 := bz.lt; obtain ⟨-, z0, z1, z2, z3, z4, zf⟩ := bz) | skip)))
          · go_wp2_with fail
            go_meet
            have pg7 := hs10 g7 (by have := hst.b7.lt; simp; omega) hst.p77
            have bel : Below wr.heap.size wr (W.alloc (.cells #[.int .i64 s2, .slice A10 xs2.length c10, .int .i64 du2, .int .i64 le2, .bool dn2] 27)) := by (repeat' (first | (with_reducible exact hB0) | (with_reducible exact Below.refl _ _) | (with_reducible refine Below.setCell ?_ ?_ _) | (with_reducible refine Below.alloc ?_ ?_ _) | (with_reducible refine Below.drew ?_) | (simp; done) | omega | (simp; omega)))
            exact ⟨W.heap.size, A10, c10, rfl, rfl, by have := hst.b7.lt; omega, (Bx.new W (.int .i64 s2) (.slice A10 xs2.length c10) (.int .i64 du2) (.int .i64 le2) (.bool dn2)), (hS10.alloc _), pg7, hst.keep bel⟩
          · go_wp2_with fail
            go_meet
            have pg7 := hs10 g7 (by have := hst.b7.lt; simp; omega) hst.p77
            have pz := hs10 wr.heap.size (by simp) (hst.s7.apart (Nat.le_refl _))
            have bel : Below wr.heap.size wr ((((((W.setCell ⟨wr.heap.size, 0, none⟩ (.int .i64 s2)).setCell ⟨wr.heap.size, 1, none⟩ (.slice A10 xs2.length c10)).setCell ⟨wr.heap.size, 2, none⟩ (.int .i64 du2)).setCell ⟨wr.heap.size, 3, none⟩ (.int .i64 le2)).setCell ⟨wr.heap.size, 4, none⟩ (.bool dn2))) := by (repeat' (first | (with_reducible exact hB0) | (with_reducible exact Below.refl _ _) | (with_reducible refine Below.setCell ?_ ?_ _) | (with_reducible refine Below.alloc ?_ ?_ _) | (with_reducible refine Below.drew ?_) | (simp; done) | omega | (simp; omega)))
            exact ⟨wr.heap.size, A10, c10, rfl, rfl, by have := hst.b7.lt; omega, ((⟨z5, z0, z1, z2, z3, z4, zf⟩ : Bx W wr.heap.size _ _ _ _ _).store (.int .i64 s2) (.slice A10 xs2.length c10) (.int .i64 du2) (.int .i64 le2) (.bool dn2)), (Sl.setCell (Sl.setCell (Sl.setCell (Sl.setCell (Sl.setCell hS10 ⟨wr.heap.size, 0, none⟩ (.int .i64 s2) pz) ⟨wr.heap.size, 1, none⟩ (.slice A10 xs2.length c10) pz) ⟨wr.heap.size, 2, none⟩ (.int .i64 du2) pz) ⟨wr.heap.size, 3, none⟩ (.int .i64 le2) pz) ⟨wr.heap.size, 4, none⟩ (.bool dn2) pz), pg7, hst.keep bel⟩
        case rest =>
        have hop2 := HO0.out _ hst.bel
        clear MK hS hop hst hop2
        obtain ⟨g10, A10, c10, rfl, rfl, hl10, b10, hS10, pa7, hst⟩ := hcut
        have hop := HO0.out _ hst.bel
        have p0 := hop.c0
        go_wp2
        go_roundw
        case rel => exact Inv.mk w g7 L.length zs _ _ (k + 1) s xs du le dn A7 c7 (by omega) (by go_num) HD.out hst
        case measure => simp [intOf]; omega
    · have hcr := hd.crash keep
      have hcl := hcr.len
      have hct := hcr.2.2
      clear hcr
      have G := Lib.hid (fun (W : World) (h : Sl W A7 c7 xs) => crash_gives ⟨s, xs, du, le, dn⟩ A7 c7 W h keep)
      clear hd
      generalize crashF ⟨s, xs, du, le, dn⟩ keep = r at G hcl hct
      obtain ⟨s2, xs2, du2, le2, dn2⟩ := r
      simp only at hcl hct
      have q := hst.b7
      obtain ⟨-, k0, k1, k2, k3, k4, kf⟩ := q
      have HC := Lib.hid hct
      clear hct
      go_wp2_with fail
      refine (G.out _ hst.s7).mono ?_
      rintro e W5 ⟨A10, c10, rfl, hS10, -, hb⟩
      dsimp only [dval] at hS10 ⊢
      have hB := below_step hst.bel hb
      clear hst hb k0 k1 k2 k3 k4 kf
      go_upto_region 15 with fail
      have b10 := Bx.new W5 (.int .i64 s2) (.slice A10 xs2.length c10) (.int .i64 du2) (.int .i64 le2) (.bool dn2)
      replace hB := hB.alloc hB.size (.cells #[.int .i64 s2, .slice A10 xs2.length c10, .int .i64 du2, .int .i64 le2, .bool dn2] 27)
      replace hS10 := hS10.alloc (.cells #[.int .i64 s2, .slice A10 xs2.length c10, .int .i64 du2, .int .i64 le2, .bool dn2] 27)
      generalize W5.alloc (.cells #[.int .i64 s2, .slice A10 xs2.length c10, .int .i64 du2, .int .i64 le2, .bool dn2] 27) = V6 at b10 hS10 hB ⊢
      generalize W5.heap.size = g10 at b10 ⊢
      have hz6 := hz.keep hB
      have hle10 := hS10.le
      have hmx10 := hS10.max
      have HS := Lib.hid (show strOfNums (xs2.take zs.length) = strOfNums zs by rw [HC.out])
      have MK := Lib.hid (fun (X : World) (h : Below V6.heap.size V6 X) => (⟨⟨(b10.keep h).c1, (conv_row ((hS10.keep h).take zs.length (c := c10) (by simp; omega) hmx10).row zs.length c10 (by rw [List.length_take]; omega)).trans (by rw [HS.out]), conv_row (hz6.keep h).row zs.length cb0 rfl⟩, h⟩ : (X.cell? ⟨g10, 1, none⟩ = some (.slice A10 xs2.length c10) ∧ (convert 25 9 (.slice A10 zs.length c10)).run Try.prog X = .ok (.string (strOfNums zs)) X ∧ (convert 25 9 (.slice B0 zs.length cb0)).run Try.prog X = .ok (.string (strOfNums zs)) X) ∧ Below V6.heap.size V6 X))
      clear HC HS
      generalize strOfNums zs = SZ at MK
      have hS := MK.out _ (Below.refl _ _).drew
      have hzc : zs.length ≤ c10 := by omega
      go_region_held3 (fun X => (X.cell? ⟨g10, 1, none⟩ = some (.slice A10 xs2.length c10) ∧ (convert 25 9 (.slice A10 zs.length c10)).run Try.prog X = .ok (.string SZ) X ∧ (convert 25 9 (.slice B0 zs.length cb0)).run Try.prog X = .ok (.string SZ) X) ∧ Below V6.heap.size V6 X)
        (first
          | with_reducible exact hS
          | (refine MK.out _ ?_; (repeat' (first | (with_reducible exact hB0) | (with_reducible exact Below.refl _ _) | (with_reducible refine Below.setCell ?_ ?_ _) | (with_reducible refine Below.alloc ?_ ?_ _) | (with_reducible refine Below.drew ?_) | (simp; done) | omega | (simp; omega)))))
        (first | fail)
      all_goals
        go_wp2
        go_ret
        refine ⟨rfl, ?_⟩
        (repeat' (first | (with_reducible exact hB) | (with_reducible exact Below.refl _ _) | (with_reducible refine Below.setCell ?_ ?_ _) | (with_reducible refine Below.alloc ?_ ?_ _) | (with_reducible refine Below.drew ?_) | (simp; done) | omega | (simp; omega)))

set_option maxRecDepth 100000 in
set_option maxHeartbeats 1600000 in
theorem walk_few (B0 : Option Addr) (cb0 : Nat) (zs : List Int) (a : Option Addr) (cap : Nat) (L : List OpD) (keep : Int) (w : World) (hL : OpsIn w a cap L) (hfew : fewB L = false) :
    Calls Try.prog 7 #[.slice B0 zs.length cb0, .slice a L.length cap, .int .i64 keep] w fun e w' => e = .returned (.bool true) ∧ Below w.heap.size w w' := by
  have F := Lib.hid (fun (W : World) (h : OpsIn W a cap L) => few_any a cap L W h)
  rw [hfew] at F
  clear hfew
  go_enter Try.func7, Try.ntmps7
  go_wp2_with fail
  refine (awake_any _).mono ?_
  rintro e W ⟨rfl, hB⟩
  go_wp2_with fail
  refine (F.out _ (hL.keep hB)).mono ?_
  rintro e W' ⟨rfl, rfl⟩
  go_wp2_with fail
  refine (awake_any _).mono ?_
  rintro e W2 ⟨rfl, hb⟩
  go_wp2
  go_ret
  exact ⟨rfl, below_step hB hb⟩

set_option maxRecDepth 100000 in
set_option maxHeartbeats 1600000 in
theorem walk_long (B0 : Option Addr) (cb0 : Nat) (zs : List Int) (a : Option Addr) (cap : Nat) (L : List OpD) (keep : Int) (w : World) (hL : OpsIn w a cap L) (hfew : fewB L = true) (hzl : 100 < zs.length) :
    Calls Try.prog 7 #[.slice B0 zs.length cb0, .slice a L.length cap, .int .i64 keep] w fun e w' => e = .returned (.bool true) ∧ Below w.heap.size w w' := by
  have F := Lib.hid (fun (W : World) (h : OpsIn W a cap L) => few_any a cap L W h)
  rw [hfew] at F
  clear hfew
  go_enter Try.func7, Try.ntmps7
  go_wp2_with fail
  refine (awake_any _).mono ?_
  rintro e W ⟨rfl, hB⟩
  go_wp2_with fail
  refine (F.out _ (hL.keep hB)).mono ?_
  rintro e W' ⟨rfl, rfl⟩
  go_wp2_with fail
  refine (awake_any _).mono ?_
  rintro e W2 ⟨rfl, hb⟩
  go_wp2
  go_ret
  exact ⟨rfl, below_step hB hb⟩

theorem walk (B0 : Option Addr) (cb0 : Nat) (zs : List Int) (a : Option Addr) (cap : Nat) (L : List OpD) (keep : Int) (w : World) (hz : Sl w B0 cb0 zs) (hL : OpsIn w a cap L) (_ : (Lit.int .i64 keep).wf = true) :
    Calls Try.prog 7 #[.slice B0 zs.length cb0, .slice a L.length cap, .int .i64 keep] w fun e w' => e = .returned (.bool true) ∧ Below w.heap.size w w' := by
  cases hf : fewB L
  · exact walk_few B0 cb0 zs a cap L keep w hL hf
  · by_cases h : zs.length ≤ 100
    · exact walk_main B0 cb0 zs a cap L keep w hz hL hf h
    · exact walk_long B0 cb0 zs a cap L keep w hL hf (by omega)

set_option maxRecDepth 100000 in
theorem lifted (os : Os) (started : os.Started) (H : Type) (enc : TypeId × Value → H) :
    ReturnsInHanded {} Try.checked os 7 .any (Rows.diskKeepsSpec.pre6 enc Try.prog Try.f7 Rows.diskKeepsRow.domain false) (Rows.diskKeepsSpec.post enc Try.prog Try.f7 false true false false) := by
  refine returnsInHanded_of_change (C := Try.checked) own started (by kernel_rfl) Try.func7
    (ChangeSpec.witness6 (enc := enc) (C := Try.checked) false ⟨#[], #[.slice none 0 0, .slice none 0 0, .int .i64 0], []⟩ 8 (by kernel_rfl) (by kernel_rfl) (by kernel_rfl) (by kernel_rfl)) ?_
  intro W base args ds gs before hval0 hW hcnd _
  have hval : ∀ (j : Nat) t v, Try.f7.params[j]? = some t → args[j]? = some v → Value.okWide Try.prog W .any base t v := hval0
  have hW' := hW
  obtain ⟨p, q, hA0, hV, rfl, hfz, hnd⟩ := hW
  have hA : DataW.TrodAll enc Try.prog W 0 (fun _ => true) true Try.f7.params.toList args.toList ds p := hA0
  rw [Try.params7] at hA hval
  obtain ⟨v0, vs0, d0, ds0, p0, q0, hargs, rfl, rfl, h0, r0⟩ := trodAll_cons hA
  obtain ⟨v1, vs1, d1, ds1, p1, q1, rfl, rfl, rfl, h1, r1⟩ := trodAll_cons r0
  obtain ⟨v2, vs2, d2, ds2, p2, q2, rfl, rfl, rfl, h2, r2⟩ := trodAll_cons r1
  obtain ⟨rfl, rfl, rfl⟩ := trodAll_nil r2
  obtain rfl : args = #[v0, v1, v2] := by cases args; simp_all
  obtain ⟨rfl, rfl⟩ := trodVars_none hV
  have k0 := h0
  have lt0 : ∀ x ∈ p0, x.block < W.heap.size := by obtain ⟨m, hm⟩ := k0; exact DataW.trod_lt m _ _ _ hm
  obtain ⟨a0, len0, c0, rfl⟩ := okWide_slice Try.underlying25 (hval 0 25 v0 rfl rfl)
  obtain ⟨B0, cb0, ys0, e0, hy0⟩ : ∃ (B : Option Addr) (cb : Nat) (ys : List Int), Value.slice a0 len0 c0 = .slice B ys.length cb ∧ Sl W B cb ys := by
    obtain ⟨fuel, hf⟩ := h0
    exact sl_of_trod (v := .slice a0 len0 c0) hf
  injection e0 with e1 e2 e3
  subst e1 e2 e3
  have k1 := h1
  have lt1 : ∀ x ∈ p1, x.block < W.heap.size := by obtain ⟨m, hm⟩ := k1; exact DataW.trod_lt m _ _ _ hm
  obtain ⟨a1, len1, c1, rfl⟩ := okWide_slice Try.underlying22 (hval 1 22 v1 rfl rfl)
  obtain ⟨L1, eL1, hL1⟩ := open_ops h1
  subst eL1
  obtain ⟨a2, rfl, rfl, rfl, w2⟩ := open_int Try.underlying3 (hval 2 3 v2 rfl rfl) h2
  clear hA0 hval0
  refine (walk a0 c0 ys0 a1 c1 L1 a2 W hy0 hL1 w2).mono fun e W' ⟨he, bel⟩ => ?_
  subst he
  exact ⟨_, rfl, _, _, _, [], _, [], hW', trodAll_mk1 (shut_bool Try.underlying4 _), (trodAll_cons_mk (Below.trod laidOut (by kernel_rfl) (of_decide_eq_true (by kernel_rfl)) k0 bel lt0) (trodAll_cons_mk (Below.trod laidOut (by kernel_rfl) (of_decide_eq_true (by kernel_rfl)) k1 bel lt1) (trodAll_cons_mk (shut_int Try.underlying3 w2) trodAll_mk0))), rfl, bel.frame _, fun h => by cases h⟩

theorem over : Rows.diskKeepsRow.holds Try.pinned (OpenSpec.ofChange Rows.diskKeepsSpec) :=
  OpenClaim.holds_of_wide 7 Try.f7 rfl rfl rfl rfl rfl rfl rfl ⟨rfl, rfl, rfl, rfl, rfl⟩ rfl rfl rfl rfl rfl (by kernel_rfl) Try.func7 (by kernel_rfl)
    (of_decide_eq_true (by kernel_rfl)) (by unfold Func.isWrapper; first | (rw [if_pos (by decide +kernel)]; kernel_rfl) | (rw [if_neg (by decide +kernel)]; exact ⟨rfl, rfl⟩))
    (fun os started H enc _ => lifted os started H enc)

theorem proved : Rows.DiskKeepsSaid := over
#print axioms proved
end Go.Proofs.Ytdchodjfgeglgaa.diskKeeps
