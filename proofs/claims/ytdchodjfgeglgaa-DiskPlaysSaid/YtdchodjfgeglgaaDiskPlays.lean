/-
  'DiskPlays' (tracebook): the Go text of this law returns true at every input of its types, and writes nothing that was there.
-/
import Derived.Test.YtdchodjfgeglgaaFew
import Derived.Test.YtdchodjfgeglgaaMath
import Derived.StillTailTactics
import Derived.Deep.Cut
import Derived.Deep.CutRange
import Derived.Deep.RegionHeld3
namespace Go.Proofs.Ytdchodjfgeglgaa.diskPlays
open Go.ChangeShapes Go.WideShapes Go.ChangeAt Go.RowKit
set_option linter.unusedVariables false

structure St (w : World) (g5 g7 : Nat) (s : Int) (xs : List Int) (du le : Int) (dn : Bool) (A5 : Option Addr) (c5 : Nat) (A7 : Option Addr) (c7 : Nat) (V : World) : Prop where
  b5 : Bx V g5 (.int .i64 s) (.slice A5 xs.length c5) (.int .i64 du) (.int .i64 le) (.bool dn)
  b7 : Bx V g7 (.int .i64 s) (.slice A7 xs.length c7) (.int .i64 du) (.int .i64 le) (.bool dn)
  s5 : Sl V A5 c5 xs
  s7 : Sl V A7 c7 xs
  p55 : Apart A5 xs g5
  p57 : Apart A5 xs g7
  p75 : Apart A7 xs g5
  p77 : Apart A7 xs g7
  lo : w.heap.size ≤ g5
  ne : g5 < g7
  bel : Below w.heap.size w V
theorem St.keep {w V V' : World} {g5 g7 : Nat} {s : Int} {xs : List Int} {du le : Int} {dn : Bool} {A5 A7 : Option Addr} {c5 c7 : Nat} (h : St w g5 g7 s xs du le dn A5 c5 A7 c7 V) (hb : Below V.heap.size V V') : St w g5 g7 s xs du le dn A5 c5 A7 c7 V' :=
  ⟨h.b5.keep hb, h.b7.keep hb, h.s5.keep hb, h.s7.keep hb, h.p55, h.p57, h.p75, h.p77, h.lo, h.ne, below_step h.bel hb⟩
def Inv (w : World) (g5 g7 len : Nat) (i : Value) (V : World) : Prop :=
  ∃ (k : Nat) (s : Int) (xs : List Int) (du le : Int) (dn : Bool) (A5 : Option Addr) (c5 : Nat) (A7 : Option Addr) (c7 : Nat), k ≤ len ∧ i = .int .i64 k ∧ okD ⟨s, xs, du, le, dn⟩ = true ∧ St w g5 g7 s xs du le dn A5 c5 A7 c7 V
theorem Inv.mk (w : World) (g5 g7 len : Nat) (i : Value) (V : World) (k : Nat) (s : Int) (xs : List Int) (du le : Int) (dn : Bool) (A5 : Option Addr) (c5 : Nat) (A7 : Option Addr) (c7 : Nat) (h1 : k ≤ len) (h2 : i = .int .i64 k) (h3 : okD ⟨s, xs, du, le, dn⟩ = true) (h4 : St w g5 g7 s xs du le dn A5 c5 A7 c7 V) : Inv w g5 g7 len i V :=
  ⟨k, s, xs, du, le, dn, A5, c5, A7, c7, h1, h2, h3, h4⟩

def Mid (w : World) (g5 g7 : Nat) (s : Int) (xs : List Int) (du le : Int) (dn : Bool) (A5 : Option Addr) (c5 : Nat) (A7 : Option Addr) (c7 : Nat) (s2 : Int) (xs2 : List Int) (du2 le2 : Int) (dn2 : Bool) (x : Int) (p q : Value) (V : World) : Prop :=
  ∃ (g : Nat) (A : Option Addr) (c : Nat), p = .pointer (some ⟨g, 0, none⟩) ∧ q = .int .i64 x ∧ g7 < g ∧ Bx V g (.int .i64 s2) (.slice A xs2.length c) (.int .i64 du2) (.int .i64 le2) (.bool dn2) ∧ Sl V A c xs2 ∧ Apart A xs2 g5 ∧ Apart A xs2 g7 ∧ St w g5 g7 s xs du le dn A5 c5 A7 c7 V
def Mid2 (w : World) (g5 g7 : Nat) (s : Int) (xs : List Int) (du le : Int) (dn : Bool) (A5 : Option Addr) (c5 : Nat) (A7 : Option Addr) (c7 : Nat) (s2 : Int) (xs2 : List Int) (du2 le2 : Int) (dn2 : Bool) (x : Int) (g10 : Nat) (A10 : Option Addr) (c10 : Nat) (p q : Value) (V : World) : Prop :=
  ∃ (g : Nat) (A : Option Addr) (c : Nat), p = .pointer (some ⟨g, 0, none⟩) ∧ q = .int .i64 x ∧ g10 < g ∧ Bx V g (.int .i64 s2) (.slice A xs2.length c) (.int .i64 du2) (.int .i64 le2) (.bool dn2) ∧ Sl V A c xs2 ∧ Apart A xs2 g5 ∧ Apart A xs2 g7 ∧ Bx V g10 (.int .i64 s2) (.slice A10 xs2.length c10) (.int .i64 du2) (.int .i64 le2) (.bool dn2) ∧ Sl V A10 c10 xs2 ∧ St w g5 g7 s xs du le dn A5 c5 A7 c7 V

set_option maxRecDepth 100000 in
set_option maxHeartbeats 6400000 in
theorem walk_main (s0 : Int) (a : Option Addr) (cap : Nat) (L : List OpD) (w : World) (hL : OpsIn w a cap L) (hfew : fewB L = true) (hok : newF s0 = (⟨s0, [], 0, -1, false⟩, 0)) (hv : okD ⟨s0, [], 0, -1, false⟩ = true) :
    Calls Try.prog 3 #[.int .i64 s0, .slice a L.length cap] w fun e w' => e = .returned (.bool true) ∧ Below w.heap.size w w' := by
  have hle := hL.le
  have hmx := hL.max
  have hlen := (fewB_true hfew).1
  have HF := Lib.hid (fewB_true hfew).2
  have F := Lib.hid (fun (W : World) (h : OpsIn W a cap L) => few_any a cap L W h)
  rw [hfew] at F
  have N1 := Lib.hid (fun W : World => new_gives s0 W none [])
  have N2 := Lib.hid (fun W : World => rnew_gives s0 W none [])
  rw [hok] at N1 N2
  have HV := Lib.hid hv
  clear hfew hok hv
  go_enter Try.func3, Try.ntmps3
  go_wp2_with fail
  refine (awake_any _).mono ?_
  rintro e W ⟨rfl, hB⟩
  go_wp2_with fail
  refine (F.out _ (hL.keep hB)).mono ?_
  rintro e W' ⟨rfl, rfl⟩
  go_wp2_with fail
  refine (N1.out _).mono ?_
  rintro e W2 ⟨A5, c5, rfl, hS5, -, hb⟩
  dsimp only [dval, List.length_nil] at hS5 ⊢
  replace hB := below_step hB hb
  clear hb
  go_upto_region 4 with fail
  have b5 := Bx.new W2 (.int .i64 s0) (.slice A5 0 c5) (.int .i64 0) (.int .i64 (-1)) (.bool false)
  have hlo : w.heap.size ≤ W2.heap.size := hB.size
  replace hB := hB.alloc hB.size (.cells #[.int .i64 s0, .slice A5 0 c5, .int .i64 0, .int .i64 (-1), .bool false] 27)
  replace hS5 := hS5.alloc (.cells #[.int .i64 s0, .slice A5 0 c5, .int .i64 0, .int .i64 (-1), .bool false] 27)
  generalize W2.alloc (.cells #[.int .i64 s0, .slice A5 0 c5, .int .i64 0, .int .i64 (-1), .bool false] 27) = V at b5 hB hS5 ⊢
  generalize W2.heap.size = g5 at b5 hlo ⊢
  go_wp2_with fail
  refine (N2.out _).mono ?_
  rintro e W3 ⟨A7, c7, rfl, hS7, -, hb⟩
  dsimp only [dval, List.length_nil] at hS7 ⊢
  replace hB := below_step hB hb
  replace b5 := b5.keep hb
  replace hS5 := hS5.keep hb
  clear hb
  go_upto_region 5 with fail
  have b7 := Bx.new W3 (.int .i64 s0) (.slice A7 0 c7) (.int .i64 0) (.int .i64 (-1)) (.bool false)
  have hne : g5 < W3.heap.size := b5.lt
  replace b5 := b5.alloc (.cells #[.int .i64 s0, .slice A7 0 c7, .int .i64 0, .int .i64 (-1), .bool false] 27)
  replace hB := hB.alloc hB.size (.cells #[.int .i64 s0, .slice A7 0 c7, .int .i64 0, .int .i64 (-1), .bool false] 27)
  replace hS5 := hS5.alloc (.cells #[.int .i64 s0, .slice A7 0 c7, .int .i64 0, .int .i64 (-1), .bool false] 27)
  replace hS7 := hS7.alloc (.cells #[.int .i64 s0, .slice A7 0 c7, .int .i64 0, .int .i64 (-1), .bool false] 27)
  generalize W3.alloc (.cells #[.int .i64 s0, .slice A7 0 c7, .int .i64 0, .int .i64 (-1), .bool false] 27) = V1 at b5 b7 hB hS5 hS7 ⊢
  generalize W3.heap.size = g7 at b7 hne ⊢
  have q := b5
  obtain ⟨-, k0, k1, k2, k3, k4, kf⟩ := q
  have q := b7
  obtain ⟨-, j0, j1, j2, j3, j4, jf⟩ := q
  go_wp2_with fail
  refine (same_eq s0 [] 0 (-1) false A5 A7 c5 c7 _ hS5 hS7).mono ?_
  rintro e W4 ⟨rfl, hb⟩
  clear k0 k1 k2 k3 k4 kf j0 j1 j2 j3 j4 jf
  have hst : St w g5 g7 s0 [] 0 (-1) false A5 c5 A7 c7 W4 := ⟨b5.keep hb, b7.keep hb, hS5.keep hb, hS7.keep hb, fun h => absurd rfl h, fun h => absurd rfl h, fun h => absurd rfl h, fun h => absurd rfl h, hlo, hne, below_step hB hb⟩
  clear b5 b7 hB hS5 hS7 hb hlo hne
  go_wp2_with fail
  go_loopw [9] (fun i V => Inv w g5 g7 L.length i V) (fun i _ => L.length - (intOf i).toNat)
  case atStart => exact Inv.mk w g5 g7 L.length _ _ 0 s0 [] 0 (-1) false A5 c5 A7 c7 (Nat.zero_le _) rfl HV.out hst
  case round =>
    clear hst
    obtain ⟨k, s, xs, du, le, dn, A5, c5, A7, c7, hk, rfl, hd, hst⟩ := hrel
    by_cases hlt : k < L.length
    · have hgo := List.getElem?_eq_getElem hlt
      generalize L[k] = o at hgo
      obtain ⟨b, off, rfl, hat0⟩ := hL.at_ k o hgo
      have hops_at : ∀ V : World, Below w.heap.size w V → OpAt V b (off + k * 3) o := fun V hB => hat0.keep hB
      have ho := HF.out k o hgo
      have HO0 := Lib.hid hops_at
      clear hat0 hgo hops_at
      obtain ⟨kd, m, B, cb, ys⟩ := o
      simp only at ho
      have hfine := actF_fine hd kd m ys
      have HD := Lib.hid hd
      clear hd
      have G1 := Lib.hid (fun (W : World) (h : Sl W A5 c5 xs) (h2 : Sl W B cb ys) => act_gives ⟨s, xs, du, le, dn⟩ A5 c5 kd m B cb ys W h h2)
      have G2 := Lib.hid (fun (W : World) (h : Sl W A7 c7 xs) (h2 : Sl W B cb ys) => exp_gives ⟨s, xs, du, le, dn⟩ A7 c7 kd m B cb ys W h h2 (by omega))
      generalize actF ⟨s, xs, du, le, dn⟩ kd m ys = r at G1 G2 hfine
      obtain ⟨⟨s2, xs2, du2, le2, dn2⟩, x⟩ := r
      rcases hfine with ⟨h1, h2, h3⟩ | ⟨h1, h2, h3⟩ | h1 | h1
      · simp only at h1 h2 h3
        subst h1 h3
        have HO := Lib.hid h2
        have CK := Lib.hid (fun (W : World) (A10 : Option Addr) (c10 : Nat) => check_ok s2 A10 xs2.length c10 du2 le2 false W h2)
        clear h2
        go_upto_region 12 with fail
        have hop := HO0.out _ hst.bel
        have MK := Lib.hid (fun (X : World) (h : Below wr.heap.size wr X) => (⟨⟨(hst.b5.keep h).c0, (hst.b5.keep h).c1, (hst.b5.keep h).c2, (hst.b5.keep h).c3, (hst.b5.keep h).c4, (hop.keep h).c0, (hop.keep h).c1, (hop.keep h).c2⟩, h⟩ : (X.cell? ⟨g5, 0, none⟩ = some (.int .i64 s) ∧ X.cell? ⟨g5, 1, none⟩ = some (.slice A5 xs.length c5) ∧ X.cell? ⟨g5, 2, none⟩ = some (.int .i64 du) ∧ X.cell? ⟨g5, 3, none⟩ = some (.int .i64 le) ∧ X.cell? ⟨g5, 4, none⟩ = some (.bool dn) ∧ X.cell? ⟨b, off + k * 3, none⟩ = some (.int .i64 kd) ∧ X.cell? ⟨b, off + k * 3 + 1, none⟩ = some (.int .i64 m) ∧ X.cell? ⟨b, off + k * 3 + 2, none⟩ = some (.slice B ys.length cb)) ∧ Below wr.heap.size wr X))
        have hS := MK.out _ (Below.refl _ _).drew
        go_cut [10, 11] from 43 to 93 (fun p q wx => Mid w g5 g7 s xs du le dn A5 c5 A7 c7 s2 xs2 du2 le2 false 0 p q wx)
        case first =>
          go_region_held3 (fun X => (X.cell? ⟨g5, 0, none⟩ = some (.int .i64 s) ∧ X.cell? ⟨g5, 1, none⟩ = some (.slice A5 xs.length c5) ∧ X.cell? ⟨g5, 2, none⟩ = some (.int .i64 du) ∧ X.cell? ⟨g5, 3, none⟩ = some (.int .i64 le) ∧ X.cell? ⟨g5, 4, none⟩ = some (.bool dn) ∧ X.cell? ⟨b, off + k * 3, none⟩ = some (.int .i64 kd) ∧ X.cell? ⟨b, off + k * 3 + 1, none⟩ = some (.int .i64 m) ∧ X.cell? ⟨b, off + k * 3 + 2, none⟩ = some (.slice B ys.length cb)) ∧ Below wr.heap.size wr X)
            (first
              | with_reducible exact hS
              | with_reducible exact hS2
              | (refine MK.out _ ?_; (repeat' (first | (with_reducible exact hB0) | (with_reducible exact Below.refl _ _) | (with_reducible refine Below.setCell ?_ ?_ _) | (with_reducible refine Below.alloc ?_ ?_ _) | (with_reducible refine Below.drew ?_) | (simp; done) | omega | (simp; omega)))))
            (first
              | (go_at_call 13; refine (G1.out _ (hst.s5.keep (by (repeat' (first | (with_reducible exact hB0) | (with_reducible exact Below.refl _ _) | (with_reducible refine Below.setCell ?_ ?_ _) | (with_reducible refine Below.alloc ?_ ?_ _) | (with_reducible refine Below.drew ?_) | (simp; done) | omega | (simp; omega))))) (hop.sl.keep (by (repeat' (first | (with_reducible exact hB0) | (with_reducible exact Below.refl _ _) | (with_reducible refine Below.setCell ?_ ?_ _) | (with_reducible refine Below.alloc ?_ ?_ _) | (with_reducible refine Below.drew ?_) | (simp; done) | omega | (simp; omega)))))).mono ?_; rintro e W ⟨A10, c10, rfl, hS10, hs10, hb⟩; (dsimp only [dval] at hS10 hs10 ⊢); (have hB0 : Below wr.heap.size wr W := below_step (by (repeat' (first | (with_reducible exact hB0) | (with_reducible exact Below.refl _ _) | (with_reducible refine Below.setCell ?_ ?_ _) | (with_reducible refine Below.alloc ?_ ?_ _) | (with_reducible refine Below.drew ?_) | (simp; done) | omega | (simp; omega)))) hb); (have hS2 := MK.out _ hB0); (have hz2 := hB0.size); (first | (have bz : Bx W wr.heap.size (.int .i64 0) (.slice none 0 0) (.int .i64 0) (.int .i64 0) (.bool false) := (Bx.new wr.drew (.int .i64 0) (.slice none 0 0) (.int .i64 0) (.int .i64 0) (.bool false)).keep hb; have z5 := bz.lt; obtain ⟨-, z0, z1, z2, z3, z4, zf⟩ := bz) | (have bz : Bx W wr.heap.size (.int .i64 0) (.slice none 0 0) (.int .i64 0) (.int .i64 0) (.bool false) := ((Bx.new wr (.int .i64 0) (.slice none 0 0) (.int .i64 0) (.int .i64 0) (.bool false)).keep (Below.refl _ _).drew).keep hb; have z5 := bz.lt; obtain ⟨-, z0, z1, z2, z3, z4, zf⟩ := bz) | skip)))
          · go_wp2_with fail
            go_meet
            have pg5 := hs10 g5 (by have := hst.b5.lt; simp; omega) hst.p55
            have pg7 := hs10 g7 (by have := hst.b7.lt; simp; omega) hst.p57
            have bel : Below wr.heap.size wr (W.alloc (.cells #[.int .i64 s2, .slice A10 xs2.length c10, .int .i64 du2, .int .i64 le2, .bool false] 27)) := by (repeat' (first | (with_reducible exact hB0) | (with_reducible exact Below.refl _ _) | (with_reducible refine Below.setCell ?_ ?_ _) | (with_reducible refine Below.alloc ?_ ?_ _) | (with_reducible refine Below.drew ?_) | (simp; done) | omega | (simp; omega)))
            exact ⟨W.heap.size, A10, c10, rfl, rfl, by have := hst.b7.lt; omega, (Bx.new W (.int .i64 s2) (.slice A10 xs2.length c10) (.int .i64 du2) (.int .i64 le2) (.bool false)), (hS10.alloc _), pg5, pg7, hst.keep bel⟩
          · go_wp2_with fail
            go_meet
            have pg5 := hs10 g5 (by have := hst.b5.lt; simp; omega) hst.p55
            have pg7 := hs10 g7 (by have := hst.b7.lt; simp; omega) hst.p57
            have pz := hs10 wr.heap.size (by simp) (hst.s5.apart (Nat.le_refl _))
            have bel : Below wr.heap.size wr ((((((W.setCell ⟨wr.heap.size, 0, none⟩ (.int .i64 s2)).setCell ⟨wr.heap.size, 1, none⟩ (.slice A10 xs2.length c10)).setCell ⟨wr.heap.size, 2, none⟩ (.int .i64 du2)).setCell ⟨wr.heap.size, 3, none⟩ (.int .i64 le2)).setCell ⟨wr.heap.size, 4, none⟩ (.bool false))) := by (repeat' (first | (with_reducible exact hB0) | (with_reducible exact Below.refl _ _) | (with_reducible refine Below.setCell ?_ ?_ _) | (with_reducible refine Below.alloc ?_ ?_ _) | (with_reducible refine Below.drew ?_) | (simp; done) | omega | (simp; omega)))
            exact ⟨wr.heap.size, A10, c10, rfl, rfl, by have := hst.b7.lt; omega, ((⟨z5, z0, z1, z2, z3, z4, zf⟩ : Bx W wr.heap.size _ _ _ _ _).store (.int .i64 s2) (.slice A10 xs2.length c10) (.int .i64 du2) (.int .i64 le2) (.bool false)), (Sl.setCell (Sl.setCell (Sl.setCell (Sl.setCell (Sl.setCell hS10 ⟨wr.heap.size, 0, none⟩ (.int .i64 s2) pz) ⟨wr.heap.size, 1, none⟩ (.slice A10 xs2.length c10) pz) ⟨wr.heap.size, 2, none⟩ (.int .i64 du2) pz) ⟨wr.heap.size, 3, none⟩ (.int .i64 le2) pz) ⟨wr.heap.size, 4, none⟩ (.bool false) pz), pg5, pg7, hst.keep bel⟩
        case rest =>
        clear MK hS hop hst
        obtain ⟨g10, A10, c10, rfl, rfl, hl10, b10, hS10, pa5, pa7, hst⟩ := hcut
        go_wp2_with fail
        go_upto_region 13 with fail
        have hop := HO0.out _ hst.bel
        have MK := Lib.hid (fun (X : World) (h : Below wc.heap.size wc X) => (⟨⟨(hst.b7.keep h).c0, (hst.b7.keep h).c1, (hst.b7.keep h).c2, (hst.b7.keep h).c3, (hst.b7.keep h).c4, (hop.keep h).c0, (hop.keep h).c1, (hop.keep h).c2⟩, h⟩ : (X.cell? ⟨g7, 0, none⟩ = some (.int .i64 s) ∧ X.cell? ⟨g7, 1, none⟩ = some (.slice A7 xs.length c7) ∧ X.cell? ⟨g7, 2, none⟩ = some (.int .i64 du) ∧ X.cell? ⟨g7, 3, none⟩ = some (.int .i64 le) ∧ X.cell? ⟨g7, 4, none⟩ = some (.bool dn) ∧ X.cell? ⟨b, off + k * 3, none⟩ = some (.int .i64 kd) ∧ X.cell? ⟨b, off + k * 3 + 1, none⟩ = some (.int .i64 m) ∧ X.cell? ⟨b, off + k * 3 + 2, none⟩ = some (.slice B ys.length cb)) ∧ Below wc.heap.size wc X))
        have hS := MK.out _ (Below.refl _ _).drew
        go_cut [12, 13] from 43 to 93 (fun p q wx => Mid2 w g5 g7 s xs du le dn A5 c5 A7 c7 s2 xs2 du2 le2 false 0 g10 A10 c10 p q wx)
        case first =>
          go_region_held3 (fun X => (X.cell? ⟨g7, 0, none⟩ = some (.int .i64 s) ∧ X.cell? ⟨g7, 1, none⟩ = some (.slice A7 xs.length c7) ∧ X.cell? ⟨g7, 2, none⟩ = some (.int .i64 du) ∧ X.cell? ⟨g7, 3, none⟩ = some (.int .i64 le) ∧ X.cell? ⟨g7, 4, none⟩ = some (.bool dn) ∧ X.cell? ⟨b, off + k * 3, none⟩ = some (.int .i64 kd) ∧ X.cell? ⟨b, off + k * 3 + 1, none⟩ = some (.int .i64 m) ∧ X.cell? ⟨b, off + k * 3 + 2, none⟩ = some (.slice B ys.length cb)) ∧ Below wc.heap.size wc X)
            (first
              | with_reducible exact hS
              | with_reducible exact hS2
              | (refine MK.out _ ?_; (repeat' (first | (with_reducible exact hB0) | (with_reducible exact Below.refl _ _) | (with_reducible refine Below.setCell ?_ ?_ _) | (with_reducible refine Below.alloc ?_ ?_ _) | (with_reducible refine Below.drew ?_) | (simp; done) | omega | (simp; omega)))))
            (first
              | (go_at_call 14; refine (G2.out _ (hst.s7.keep (by (repeat' (first | (with_reducible exact hB0) | (with_reducible exact Below.refl _ _) | (with_reducible refine Below.setCell ?_ ?_ _) | (with_reducible refine Below.alloc ?_ ?_ _) | (with_reducible refine Below.drew ?_) | (simp; done) | omega | (simp; omega))))) (hop.sl.keep (by (repeat' (first | (with_reducible exact hB0) | (with_reducible exact Below.refl _ _) | (with_reducible refine Below.setCell ?_ ?_ _) | (with_reducible refine Below.alloc ?_ ?_ _) | (with_reducible refine Below.drew ?_) | (simp; done) | omega | (simp; omega)))))).mono ?_; rintro e W ⟨A12, c12, rfl, hS12, hs12, hb⟩; (dsimp only [dval] at hS12 hs12 ⊢); (have hB0 : Below wc.heap.size wc W := below_step (by (repeat' (first | (with_reducible exact hB0) | (with_reducible exact Below.refl _ _) | (with_reducible refine Below.setCell ?_ ?_ _) | (with_reducible refine Below.alloc ?_ ?_ _) | (with_reducible refine Below.drew ?_) | (simp; done) | omega | (simp; omega)))) hb); (have hS2 := MK.out _ hB0); (have hz2 := hB0.size); (first | (have bz : Bx W wc.heap.size (.int .i64 0) (.slice none 0 0) (.int .i64 0) (.int .i64 0) (.bool false) := (Bx.new wc.drew (.int .i64 0) (.slice none 0 0) (.int .i64 0) (.int .i64 0) (.bool false)).keep hb; have z5 := bz.lt; obtain ⟨-, z0, z1, z2, z3, z4, zf⟩ := bz) | (have bz : Bx W wc.heap.size (.int .i64 0) (.slice none 0 0) (.int .i64 0) (.int .i64 0) (.bool false) := ((Bx.new wc (.int .i64 0) (.slice none 0 0) (.int .i64 0) (.int .i64 0) (.bool false)).keep (Below.refl _ _).drew).keep hb; have z5 := bz.lt; obtain ⟨-, z0, z1, z2, z3, z4, zf⟩ := bz) | skip)))
          · go_wp2_with fail
            go_meet
            have pg5 := hs12 g5 (by have := hst.b5.lt; simp; omega) hst.p75
            have pg7 := hs12 g7 (by have := hst.b7.lt; simp; omega) hst.p77
            have bel : Below wc.heap.size wc (W.alloc (.cells #[.int .i64 s2, .slice A12 xs2.length c12, .int .i64 du2, .int .i64 le2, .bool false] 27)) := by (repeat' (first | (with_reducible exact hB0) | (with_reducible exact Below.refl _ _) | (with_reducible refine Below.setCell ?_ ?_ _) | (with_reducible refine Below.alloc ?_ ?_ _) | (with_reducible refine Below.drew ?_) | (simp; done) | omega | (simp; omega)))
            exact ⟨W.heap.size, A12, c12, rfl, rfl, by have := b10.lt; omega, (Bx.new W (.int .i64 s2) (.slice A12 xs2.length c12) (.int .i64 du2) (.int .i64 le2) (.bool false)), (hS12.alloc _), pg5, pg7, b10.keep bel, hS10.keep bel, hst.keep bel⟩
          · go_wp2_with fail
            go_meet
            have pg5 := hs12 g5 (by have := hst.b5.lt; simp; omega) hst.p75
            have pg7 := hs12 g7 (by have := hst.b7.lt; simp; omega) hst.p77
            have pz := hs12 wc.heap.size (by simp) (hst.s7.apart (Nat.le_refl _))
            have bel : Below wc.heap.size wc ((((((W.setCell ⟨wc.heap.size, 0, none⟩ (.int .i64 s2)).setCell ⟨wc.heap.size, 1, none⟩ (.slice A12 xs2.length c12)).setCell ⟨wc.heap.size, 2, none⟩ (.int .i64 du2)).setCell ⟨wc.heap.size, 3, none⟩ (.int .i64 le2)).setCell ⟨wc.heap.size, 4, none⟩ (.bool false))) := by (repeat' (first | (with_reducible exact hB0) | (with_reducible exact Below.refl _ _) | (with_reducible refine Below.setCell ?_ ?_ _) | (with_reducible refine Below.alloc ?_ ?_ _) | (with_reducible refine Below.drew ?_) | (simp; done) | omega | (simp; omega)))
            exact ⟨wc.heap.size, A12, c12, rfl, rfl, by have := b10.lt; omega, ((⟨z5, z0, z1, z2, z3, z4, zf⟩ : Bx W wc.heap.size _ _ _ _ _).store (.int .i64 s2) (.slice A12 xs2.length c12) (.int .i64 du2) (.int .i64 le2) (.bool false)), (Sl.setCell (Sl.setCell (Sl.setCell (Sl.setCell (Sl.setCell hS12 ⟨wc.heap.size, 0, none⟩ (.int .i64 s2) pz) ⟨wc.heap.size, 1, none⟩ (.slice A12 xs2.length c12) pz) ⟨wc.heap.size, 2, none⟩ (.int .i64 du2) pz) ⟨wc.heap.size, 3, none⟩ (.int .i64 le2) pz) ⟨wc.heap.size, 4, none⟩ (.bool false) pz), pg5, pg7, b10.keep bel, hS10.keep bel, hst.keep bel⟩
        case rest =>
        clear MK hS hop hst b10 hS10
        obtain ⟨g12, A12, c12, rfl, rfl, hl12, b12, hS12, pb5, pb7, b10, hS10, hst⟩ := hcut
        have q := b10
        have q2 := b12
        obtain ⟨-, k0, k1, k2, k3, k4, kf⟩ := q
        obtain ⟨-, j0, j1, j2, j3, j4, jf⟩ := q2
        go_wp2_with fail
        refine (same_eq s2 xs2 du2 le2 false A10 A12 c10 c12 _ hS10 hS12).mono ?_
        rintro e W3 ⟨rfl, hb⟩
        clear k0 k1 k2 k3 k4 kf j0 j1 j2 j3 j4 jf
        replace hst := hst.keep hb
        replace b10 := b10.keep hb
        replace b12 := b12.keep hb
        replace hS10 := hS10.keep hb
        replace hS12 := hS12.keep hb
        clear hb
        have q := b10
        obtain ⟨-, k0, k1, k2, k3, k4, kf⟩ := q
        go_wp2_with fail
        refine (CK.out _ _ _).mono ?_
        rintro e W4 ⟨rfl, hb⟩
        clear k0 k1 k2 k3 k4 kf
        replace hst := hst.keep hb
        replace b10 := b10.keep hb
        replace b12 := b12.keep hb
        replace hS10 := hS10.keep hb
        replace hS12 := hS12.keep hb
        clear hb
        obtain ⟨b5, b7, -, -, -, -, -, -, hlo, hne, hB⟩ := hst
        have q := b10
        obtain ⟨-, k0, k1, k2, k3, k4, kf⟩ := q
        have q := b5
        obtain ⟨-, j0, j1, j2, j3, j4, jf⟩ := q
        go_upto_region 20 with fail
        clear k0 k1 k2 k3 k4 kf j0 j1 j2 j3 j4 jf
        replace b5 := b5.store (.int .i64 s2) (.slice A10 xs2.length c10) (.int .i64 du2) (.int .i64 le2) (.bool false)
        replace b7 := (Bx.far (Bx.far (Bx.far (Bx.far (Bx.far b7 ⟨g5, 0, none⟩ (.int .i64 s2) (by show g7 ≠ g5; omega)) ⟨g5, 1, none⟩ (.slice A10 xs2.length c10) (by show g7 ≠ g5; omega)) ⟨g5, 2, none⟩ (.int .i64 du2) (by show g7 ≠ g5; omega)) ⟨g5, 3, none⟩ (.int .i64 le2) (by show g7 ≠ g5; omega)) ⟨g5, 4, none⟩ (.bool false) (by show g7 ≠ g5; omega))
        replace b12 := (Bx.far (Bx.far (Bx.far (Bx.far (Bx.far b12 ⟨g5, 0, none⟩ (.int .i64 s2) (by show g12 ≠ g5; omega)) ⟨g5, 1, none⟩ (.slice A10 xs2.length c10) (by show g12 ≠ g5; omega)) ⟨g5, 2, none⟩ (.int .i64 du2) (by show g12 ≠ g5; omega)) ⟨g5, 3, none⟩ (.int .i64 le2) (by show g12 ≠ g5; omega)) ⟨g5, 4, none⟩ (.bool false) (by show g12 ≠ g5; omega))
        replace hS10 := (Sl.setCell (Sl.setCell (Sl.setCell (Sl.setCell (Sl.setCell hS10 ⟨g5, 0, none⟩ (.int .i64 s2) pa5) ⟨g5, 1, none⟩ (.slice A10 xs2.length c10) pa5) ⟨g5, 2, none⟩ (.int .i64 du2) pa5) ⟨g5, 3, none⟩ (.int .i64 le2) pa5) ⟨g5, 4, none⟩ (.bool false) pa5)
        replace hS12 := (Sl.setCell (Sl.setCell (Sl.setCell (Sl.setCell (Sl.setCell hS12 ⟨g5, 0, none⟩ (.int .i64 s2) pb5) ⟨g5, 1, none⟩ (.slice A10 xs2.length c10) pb5) ⟨g5, 2, none⟩ (.int .i64 du2) pb5) ⟨g5, 3, none⟩ (.int .i64 le2) pb5) ⟨g5, 4, none⟩ (.bool false) pb5)
        replace hB : Below w.heap.size w (((((W4.setCell ⟨g5, 0, none⟩ (.int .i64 s2)).setCell ⟨g5, 1, none⟩ (.slice A10 xs2.length c10)).setCell ⟨g5, 2, none⟩ (.int .i64 du2)).setCell ⟨g5, 3, none⟩ (.int .i64 le2)).setCell ⟨g5, 4, none⟩ (.bool false)) := by (repeat' (first | (with_reducible exact hB) | (with_reducible exact Below.refl _ _) | (with_reducible refine Below.setCell ?_ ?_ _) | (with_reducible refine Below.alloc ?_ ?_ _) | (with_reducible refine Below.drew ?_) | (simp; done) | omega | (simp; omega)))
        generalize (((((W4.setCell ⟨g5, 0, none⟩ (.int .i64 s2)).setCell ⟨g5, 1, none⟩ (.slice A10 xs2.length c10)).setCell ⟨g5, 2, none⟩ (.int .i64 du2)).setCell ⟨g5, 3, none⟩ (.int .i64 le2)).setCell ⟨g5, 4, none⟩ (.bool false)) = V6 at b5 b7 b12 hS10 hS12 hB ⊢
        have q := b12
        obtain ⟨-, k0, k1, k2, k3, k4, kf⟩ := q
        have q := b7
        obtain ⟨-, j0, j1, j2, j3, j4, jf⟩ := q
        go_upto_region 11 with fail
        clear k0 k1 k2 k3 k4 kf j0 j1 j2 j3 j4 jf
        replace b7 := b7.store (.int .i64 s2) (.slice A12 xs2.length c12) (.int .i64 du2) (.int .i64 le2) (.bool false)
        replace b5 := (Bx.far (Bx.far (Bx.far (Bx.far (Bx.far b5 ⟨g7, 0, none⟩ (.int .i64 s2) (by show g5 ≠ g7; omega)) ⟨g7, 1, none⟩ (.slice A12 xs2.length c12) (by show g5 ≠ g7; omega)) ⟨g7, 2, none⟩ (.int .i64 du2) (by show g5 ≠ g7; omega)) ⟨g7, 3, none⟩ (.int .i64 le2) (by show g5 ≠ g7; omega)) ⟨g7, 4, none⟩ (.bool false) (by show g5 ≠ g7; omega))
        replace hS10 := (Sl.setCell (Sl.setCell (Sl.setCell (Sl.setCell (Sl.setCell hS10 ⟨g7, 0, none⟩ (.int .i64 s2) pa7) ⟨g7, 1, none⟩ (.slice A12 xs2.length c12) pa7) ⟨g7, 2, none⟩ (.int .i64 du2) pa7) ⟨g7, 3, none⟩ (.int .i64 le2) pa7) ⟨g7, 4, none⟩ (.bool false) pa7)
        replace hS12 := (Sl.setCell (Sl.setCell (Sl.setCell (Sl.setCell (Sl.setCell hS12 ⟨g7, 0, none⟩ (.int .i64 s2) pb7) ⟨g7, 1, none⟩ (.slice A12 xs2.length c12) pb7) ⟨g7, 2, none⟩ (.int .i64 du2) pb7) ⟨g7, 3, none⟩ (.int .i64 le2) pb7) ⟨g7, 4, none⟩ (.bool false) pb7)
        replace hB : Below w.heap.size w (((((V6.setCell ⟨g7, 0, none⟩ (.int .i64 s2)).setCell ⟨g7, 1, none⟩ (.slice A12 xs2.length c12)).setCell ⟨g7, 2, none⟩ (.int .i64 du2)).setCell ⟨g7, 3, none⟩ (.int .i64 le2)).setCell ⟨g7, 4, none⟩ (.bool false)) := by (repeat' (first | (with_reducible exact hB) | (with_reducible exact Below.refl _ _) | (with_reducible refine Below.setCell ?_ ?_ _) | (with_reducible refine Below.alloc ?_ ?_ _) | (with_reducible refine Below.drew ?_) | (simp; done) | omega | (simp; omega)))
        generalize (((((V6.setCell ⟨g7, 0, none⟩ (.int .i64 s2)).setCell ⟨g7, 1, none⟩ (.slice A12 xs2.length c12)).setCell ⟨g7, 2, none⟩ (.int .i64 du2)).setCell ⟨g7, 3, none⟩ (.int .i64 le2)).setCell ⟨g7, 4, none⟩ (.bool false)) = V7 at b5 b7 hS10 hS12 hB ⊢
        go_wp2
        go_roundw
        case rel => exact Inv.mk w g5 g7 L.length _ _ (k + 1) s2 xs2 du2 le2 false A10 c10 A12 c12 (by omega) (by go_num) HO.out ⟨b5, b7, hS10, hS12, pa5, pa7, pb5, pb7, hlo, hne, hB⟩
        case measure => simp [intOf]; omega
      · simp only at h1 h2 h3
        subst h1 h3
        have HO := Lib.hid h2
        have CK := Lib.hid (fun (W : World) (A10 : Option Addr) (c10 : Nat) => check_ok s2 A10 xs2.length c10 du2 le2 true W h2)
        clear h2
        go_upto_region 12 with fail
        have hop := HO0.out _ hst.bel
        have MK := Lib.hid (fun (X : World) (h : Below wr.heap.size wr X) => (⟨⟨(hst.b5.keep h).c0, (hst.b5.keep h).c1, (hst.b5.keep h).c2, (hst.b5.keep h).c3, (hst.b5.keep h).c4, (hop.keep h).c0, (hop.keep h).c1, (hop.keep h).c2⟩, h⟩ : (X.cell? ⟨g5, 0, none⟩ = some (.int .i64 s) ∧ X.cell? ⟨g5, 1, none⟩ = some (.slice A5 xs.length c5) ∧ X.cell? ⟨g5, 2, none⟩ = some (.int .i64 du) ∧ X.cell? ⟨g5, 3, none⟩ = some (.int .i64 le) ∧ X.cell? ⟨g5, 4, none⟩ = some (.bool dn) ∧ X.cell? ⟨b, off + k * 3, none⟩ = some (.int .i64 kd) ∧ X.cell? ⟨b, off + k * 3 + 1, none⟩ = some (.int .i64 m) ∧ X.cell? ⟨b, off + k * 3 + 2, none⟩ = some (.slice B ys.length cb)) ∧ Below wr.heap.size wr X))
        have hS := MK.out _ (Below.refl _ _).drew
        go_cut [10, 11] from 43 to 93 (fun p q wx => Mid w g5 g7 s xs du le dn A5 c5 A7 c7 s2 xs2 du2 le2 true 19 p q wx)
        case first =>
          go_region_held3 (fun X => (X.cell? ⟨g5, 0, none⟩ = some (.int .i64 s) ∧ X.cell? ⟨g5, 1, none⟩ = some (.slice A5 xs.length c5) ∧ X.cell? ⟨g5, 2, none⟩ = some (.int .i64 du) ∧ X.cell? ⟨g5, 3, none⟩ = some (.int .i64 le) ∧ X.cell? ⟨g5, 4, none⟩ = some (.bool dn) ∧ X.cell? ⟨b, off + k * 3, none⟩ = some (.int .i64 kd) ∧ X.cell? ⟨b, off + k * 3 + 1, none⟩ = some (.int .i64 m) ∧ X.cell? ⟨b, off + k * 3 + 2, none⟩ = some (.slice B ys.length cb)) ∧ Below wr.heap.size wr X)
            (first
              | with_reducible exact hS
              | with_reducible exact hS2
              | (refine MK.out _ ?_; (repeat' (first | (with_reducible exact hB0) | (with_reducible exact Below.refl _ _) | (with_reducible refine Below.setCell ?_ ?_ _) | (with_reducible refine Below.alloc ?_ ?_ _) | (with_reducible refine Below.drew ?_) | (simp; done) | omega | (simp; omega)))))
            (first
              | (go_at_call 13; refine (G1.out _ (hst.s5.keep (by (repeat' (first | (with_reducible exact hB0) | (with_reducible exact Below.refl _ _) | (with_reducible refine Below.setCell ?_ ?_ _) | (with_reducible refine Below.alloc ?_ ?_ _) | (with_reducible refine Below.drew ?_) | (simp; done) | omega | (simp; omega))))) (hop.sl.keep (by (repeat' (first | (with_reducible exact hB0) | (with_reducible exact Below.refl _ _) | (with_reducible refine Below.setCell ?_ ?_ _) | (with_reducible refine Below.alloc ?_ ?_ _) | (with_reducible refine Below.drew ?_) | (simp; done) | omega | (simp; omega)))))).mono ?_; rintro e W ⟨A10, c10, rfl, hS10, hs10, hb⟩; (dsimp only [dval] at hS10 hs10 ⊢); (have hB0 : Below wr.heap.size wr W := below_step (by (repeat' (first | (with_reducible exact hB0) | (with_reducible exact Below.refl _ _) | (with_reducible refine Below.setCell ?_ ?_ _) | (with_reducible refine Below.alloc ?_ ?_ _) | (with_reducible refine Below.drew ?_) | (simp; done) | omega | (simp; omega)))) hb); (have hS2 := MK.out _ hB0); (have hz2 := hB0.size); (first | (have bz : Bx W wr.heap.size (.int .i64 0) (.slice none 0 0) (.int .i64 0) (.int .i64 0) (.bool false) := (Bx.new wr.drew (.int .i64 0) (.slice none 0 0) (.int .i64 0) (.int .i64 0) (.bool false)).keep hb; have z5 := bz.lt; obtain ⟨-, z0, z1, z2, z3, z4, zf⟩ := bz) | (have bz : Bx W wr.heap.size (.int .i64 0) (.slice none 0 0) (.int .i64 0) (.int .i64 0) (.bool false) := ((Bx.new wr (.int .i64 0) (.slice none 0 0) (.int .i64 0) (.int .i64 0) (.bool false)).keep (Below.refl _ _).drew).keep hb; have z5 := bz.lt; obtain ⟨-, z0, z1, z2, z3, z4, zf⟩ := bz) | skip)))
          · go_wp2_with fail
            go_meet
            have pg5 := hs10 g5 (by have := hst.b5.lt; simp; omega) hst.p55
            have pg7 := hs10 g7 (by have := hst.b7.lt; simp; omega) hst.p57
            have bel : Below wr.heap.size wr (W.alloc (.cells #[.int .i64 s2, .slice A10 xs2.length c10, .int .i64 du2, .int .i64 le2, .bool true] 27)) := by (repeat' (first | (with_reducible exact hB0) | (with_reducible exact Below.refl _ _) | (with_reducible refine Below.setCell ?_ ?_ _) | (with_reducible refine Below.alloc ?_ ?_ _) | (with_reducible refine Below.drew ?_) | (simp; done) | omega | (simp; omega)))
            exact ⟨W.heap.size, A10, c10, rfl, rfl, by have := hst.b7.lt; omega, (Bx.new W (.int .i64 s2) (.slice A10 xs2.length c10) (.int .i64 du2) (.int .i64 le2) (.bool true)), (hS10.alloc _), pg5, pg7, hst.keep bel⟩
          · go_wp2_with fail
            go_meet
            have pg5 := hs10 g5 (by have := hst.b5.lt; simp; omega) hst.p55
            have pg7 := hs10 g7 (by have := hst.b7.lt; simp; omega) hst.p57
            have pz := hs10 wr.heap.size (by simp) (hst.s5.apart (Nat.le_refl _))
            have bel : Below wr.heap.size wr ((((((W.setCell ⟨wr.heap.size, 0, none⟩ (.int .i64 s2)).setCell ⟨wr.heap.size, 1, none⟩ (.slice A10 xs2.length c10)).setCell ⟨wr.heap.size, 2, none⟩ (.int .i64 du2)).setCell ⟨wr.heap.size, 3, none⟩ (.int .i64 le2)).setCell ⟨wr.heap.size, 4, none⟩ (.bool true))) := by (repeat' (first | (with_reducible exact hB0) | (with_reducible exact Below.refl _ _) | (with_reducible refine Below.setCell ?_ ?_ _) | (with_reducible refine Below.alloc ?_ ?_ _) | (with_reducible refine Below.drew ?_) | (simp; done) | omega | (simp; omega)))
            exact ⟨wr.heap.size, A10, c10, rfl, rfl, by have := hst.b7.lt; omega, ((⟨z5, z0, z1, z2, z3, z4, zf⟩ : Bx W wr.heap.size _ _ _ _ _).store (.int .i64 s2) (.slice A10 xs2.length c10) (.int .i64 du2) (.int .i64 le2) (.bool true)), (Sl.setCell (Sl.setCell (Sl.setCell (Sl.setCell (Sl.setCell hS10 ⟨wr.heap.size, 0, none⟩ (.int .i64 s2) pz) ⟨wr.heap.size, 1, none⟩ (.slice A10 xs2.length c10) pz) ⟨wr.heap.size, 2, none⟩ (.int .i64 du2) pz) ⟨wr.heap.size, 3, none⟩ (.int .i64 le2) pz) ⟨wr.heap.size, 4, none⟩ (.bool true) pz), pg5, pg7, hst.keep bel⟩
        case rest =>
        clear MK hS hop hst
        obtain ⟨g10, A10, c10, rfl, rfl, hl10, b10, hS10, pa5, pa7, hst⟩ := hcut
        go_wp2_with fail
        go_upto_region 13 with fail
        have hop := HO0.out _ hst.bel
        have MK := Lib.hid (fun (X : World) (h : Below wc.heap.size wc X) => (⟨⟨(hst.b7.keep h).c0, (hst.b7.keep h).c1, (hst.b7.keep h).c2, (hst.b7.keep h).c3, (hst.b7.keep h).c4, (hop.keep h).c0, (hop.keep h).c1, (hop.keep h).c2⟩, h⟩ : (X.cell? ⟨g7, 0, none⟩ = some (.int .i64 s) ∧ X.cell? ⟨g7, 1, none⟩ = some (.slice A7 xs.length c7) ∧ X.cell? ⟨g7, 2, none⟩ = some (.int .i64 du) ∧ X.cell? ⟨g7, 3, none⟩ = some (.int .i64 le) ∧ X.cell? ⟨g7, 4, none⟩ = some (.bool dn) ∧ X.cell? ⟨b, off + k * 3, none⟩ = some (.int .i64 kd) ∧ X.cell? ⟨b, off + k * 3 + 1, none⟩ = some (.int .i64 m) ∧ X.cell? ⟨b, off + k * 3 + 2, none⟩ = some (.slice B ys.length cb)) ∧ Below wc.heap.size wc X))
        have hS := MK.out _ (Below.refl _ _).drew
        go_cut [12, 13] from 43 to 93 (fun p q wx => Mid2 w g5 g7 s xs du le dn A5 c5 A7 c7 s2 xs2 du2 le2 true 19 g10 A10 c10 p q wx)
        case first =>
          go_region_held3 (fun X => (X.cell? ⟨g7, 0, none⟩ = some (.int .i64 s) ∧ X.cell? ⟨g7, 1, none⟩ = some (.slice A7 xs.length c7) ∧ X.cell? ⟨g7, 2, none⟩ = some (.int .i64 du) ∧ X.cell? ⟨g7, 3, none⟩ = some (.int .i64 le) ∧ X.cell? ⟨g7, 4, none⟩ = some (.bool dn) ∧ X.cell? ⟨b, off + k * 3, none⟩ = some (.int .i64 kd) ∧ X.cell? ⟨b, off + k * 3 + 1, none⟩ = some (.int .i64 m) ∧ X.cell? ⟨b, off + k * 3 + 2, none⟩ = some (.slice B ys.length cb)) ∧ Below wc.heap.size wc X)
            (first
              | with_reducible exact hS
              | with_reducible exact hS2
              | (refine MK.out _ ?_; (repeat' (first | (with_reducible exact hB0) | (with_reducible exact Below.refl _ _) | (with_reducible refine Below.setCell ?_ ?_ _) | (with_reducible refine Below.alloc ?_ ?_ _) | (with_reducible refine Below.drew ?_) | (simp; done) | omega | (simp; omega)))))
            (first
              | (go_at_call 14; refine (G2.out _ (hst.s7.keep (by (repeat' (first | (with_reducible exact hB0) | (with_reducible exact Below.refl _ _) | (with_reducible refine Below.setCell ?_ ?_ _) | (with_reducible refine Below.alloc ?_ ?_ _) | (with_reducible refine Below.drew ?_) | (simp; done) | omega | (simp; omega))))) (hop.sl.keep (by (repeat' (first | (with_reducible exact hB0) | (with_reducible exact Below.refl _ _) | (with_reducible refine Below.setCell ?_ ?_ _) | (with_reducible refine Below.alloc ?_ ?_ _) | (with_reducible refine Below.drew ?_) | (simp; done) | omega | (simp; omega)))))).mono ?_; rintro e W ⟨A12, c12, rfl, hS12, hs12, hb⟩; (dsimp only [dval] at hS12 hs12 ⊢); (have hB0 : Below wc.heap.size wc W := below_step (by (repeat' (first | (with_reducible exact hB0) | (with_reducible exact Below.refl _ _) | (with_reducible refine Below.setCell ?_ ?_ _) | (with_reducible refine Below.alloc ?_ ?_ _) | (with_reducible refine Below.drew ?_) | (simp; done) | omega | (simp; omega)))) hb); (have hS2 := MK.out _ hB0); (have hz2 := hB0.size); (first | (have bz : Bx W wc.heap.size (.int .i64 0) (.slice none 0 0) (.int .i64 0) (.int .i64 0) (.bool false) := (Bx.new wc.drew (.int .i64 0) (.slice none 0 0) (.int .i64 0) (.int .i64 0) (.bool false)).keep hb; have z5 := bz.lt; obtain ⟨-, z0, z1, z2, z3, z4, zf⟩ := bz) | (have bz : Bx W wc.heap.size (.int .i64 0) (.slice none 0 0) (.int .i64 0) (.int .i64 0) (.bool false) := ((Bx.new wc (.int .i64 0) (.slice none 0 0) (.int .i64 0) (.int .i64 0) (.bool false)).keep (Below.refl _ _).drew).keep hb; have z5 := bz.lt; obtain ⟨-, z0, z1, z2, z3, z4, zf⟩ := bz) | skip)))
          · go_wp2_with fail
            go_meet
            have pg5 := hs12 g5 (by have := hst.b5.lt; simp; omega) hst.p75
            have pg7 := hs12 g7 (by have := hst.b7.lt; simp; omega) hst.p77
            have bel : Below wc.heap.size wc (W.alloc (.cells #[.int .i64 s2, .slice A12 xs2.length c12, .int .i64 du2, .int .i64 le2, .bool true] 27)) := by (repeat' (first | (with_reducible exact hB0) | (with_reducible exact Below.refl _ _) | (with_reducible refine Below.setCell ?_ ?_ _) | (with_reducible refine Below.alloc ?_ ?_ _) | (with_reducible refine Below.drew ?_) | (simp; done) | omega | (simp; omega)))
            exact ⟨W.heap.size, A12, c12, rfl, rfl, by have := b10.lt; omega, (Bx.new W (.int .i64 s2) (.slice A12 xs2.length c12) (.int .i64 du2) (.int .i64 le2) (.bool true)), (hS12.alloc _), pg5, pg7, b10.keep bel, hS10.keep bel, hst.keep bel⟩
          · go_wp2_with fail
            go_meet
            have pg5 := hs12 g5 (by have := hst.b5.lt; simp; omega) hst.p75
            have pg7 := hs12 g7 (by have := hst.b7.lt; simp; omega) hst.p77
            have pz := hs12 wc.heap.size (by simp) (hst.s7.apart (Nat.le_refl _))
            have bel : Below wc.heap.size wc ((((((W.setCell ⟨wc.heap.size, 0, none⟩ (.int .i64 s2)).setCell ⟨wc.heap.size, 1, none⟩ (.slice A12 xs2.length c12)).setCell ⟨wc.heap.size, 2, none⟩ (.int .i64 du2)).setCell ⟨wc.heap.size, 3, none⟩ (.int .i64 le2)).setCell ⟨wc.heap.size, 4, none⟩ (.bool true))) := by (repeat' (first | (with_reducible exact hB0) | (with_reducible exact Below.refl _ _) | (with_reducible refine Below.setCell ?_ ?_ _) | (with_reducible refine Below.alloc ?_ ?_ _) | (with_reducible refine Below.drew ?_) | (simp; done) | omega | (simp; omega)))
            exact ⟨wc.heap.size, A12, c12, rfl, rfl, by have := b10.lt; omega, ((⟨z5, z0, z1, z2, z3, z4, zf⟩ : Bx W wc.heap.size _ _ _ _ _).store (.int .i64 s2) (.slice A12 xs2.length c12) (.int .i64 du2) (.int .i64 le2) (.bool true)), (Sl.setCell (Sl.setCell (Sl.setCell (Sl.setCell (Sl.setCell hS12 ⟨wc.heap.size, 0, none⟩ (.int .i64 s2) pz) ⟨wc.heap.size, 1, none⟩ (.slice A12 xs2.length c12) pz) ⟨wc.heap.size, 2, none⟩ (.int .i64 du2) pz) ⟨wc.heap.size, 3, none⟩ (.int .i64 le2) pz) ⟨wc.heap.size, 4, none⟩ (.bool true) pz), pg5, pg7, b10.keep bel, hS10.keep bel, hst.keep bel⟩
        case rest =>
        clear MK hS hop hst b10 hS10
        obtain ⟨g12, A12, c12, rfl, rfl, hl12, b12, hS12, pb5, pb7, b10, hS10, hst⟩ := hcut
        have q := b10
        have q2 := b12
        obtain ⟨-, k0, k1, k2, k3, k4, kf⟩ := q
        obtain ⟨-, j0, j1, j2, j3, j4, jf⟩ := q2
        go_wp2_with fail
        refine (same_eq s2 xs2 du2 le2 true A10 A12 c10 c12 _ hS10 hS12).mono ?_
        rintro e W3 ⟨rfl, hb⟩
        clear k0 k1 k2 k3 k4 kf j0 j1 j2 j3 j4 jf
        replace hst := hst.keep hb
        replace b10 := b10.keep hb
        replace b12 := b12.keep hb
        replace hS10 := hS10.keep hb
        replace hS12 := hS12.keep hb
        clear hb
        have q := b10
        obtain ⟨-, k0, k1, k2, k3, k4, kf⟩ := q
        go_wp2_with fail
        refine (CK.out _ _ _).mono ?_
        rintro e W4 ⟨rfl, hb⟩
        clear k0 k1 k2 k3 k4 kf
        replace hst := hst.keep hb
        replace b10 := b10.keep hb
        replace b12 := b12.keep hb
        replace hS10 := hS10.keep hb
        replace hS12 := hS12.keep hb
        clear hb
        obtain ⟨b5, b7, -, -, -, -, -, -, hlo, hne, hB⟩ := hst
        have q := b10
        obtain ⟨-, k0, k1, k2, k3, k4, kf⟩ := q
        have q := b5
        obtain ⟨-, j0, j1, j2, j3, j4, jf⟩ := q
        go_upto_region 20 with fail
        clear k0 k1 k2 k3 k4 kf j0 j1 j2 j3 j4 jf
        replace b5 := b5.store (.int .i64 s2) (.slice A10 xs2.length c10) (.int .i64 du2) (.int .i64 le2) (.bool true)
        replace b7 := (Bx.far (Bx.far (Bx.far (Bx.far (Bx.far b7 ⟨g5, 0, none⟩ (.int .i64 s2) (by show g7 ≠ g5; omega)) ⟨g5, 1, none⟩ (.slice A10 xs2.length c10) (by show g7 ≠ g5; omega)) ⟨g5, 2, none⟩ (.int .i64 du2) (by show g7 ≠ g5; omega)) ⟨g5, 3, none⟩ (.int .i64 le2) (by show g7 ≠ g5; omega)) ⟨g5, 4, none⟩ (.bool true) (by show g7 ≠ g5; omega))
        replace b12 := (Bx.far (Bx.far (Bx.far (Bx.far (Bx.far b12 ⟨g5, 0, none⟩ (.int .i64 s2) (by show g12 ≠ g5; omega)) ⟨g5, 1, none⟩ (.slice A10 xs2.length c10) (by show g12 ≠ g5; omega)) ⟨g5, 2, none⟩ (.int .i64 du2) (by show g12 ≠ g5; omega)) ⟨g5, 3, none⟩ (.int .i64 le2) (by show g12 ≠ g5; omega)) ⟨g5, 4, none⟩ (.bool true) (by show g12 ≠ g5; omega))
        replace hS10 := (Sl.setCell (Sl.setCell (Sl.setCell (Sl.setCell (Sl.setCell hS10 ⟨g5, 0, none⟩ (.int .i64 s2) pa5) ⟨g5, 1, none⟩ (.slice A10 xs2.length c10) pa5) ⟨g5, 2, none⟩ (.int .i64 du2) pa5) ⟨g5, 3, none⟩ (.int .i64 le2) pa5) ⟨g5, 4, none⟩ (.bool true) pa5)
        replace hS12 := (Sl.setCell (Sl.setCell (Sl.setCell (Sl.setCell (Sl.setCell hS12 ⟨g5, 0, none⟩ (.int .i64 s2) pb5) ⟨g5, 1, none⟩ (.slice A10 xs2.length c10) pb5) ⟨g5, 2, none⟩ (.int .i64 du2) pb5) ⟨g5, 3, none⟩ (.int .i64 le2) pb5) ⟨g5, 4, none⟩ (.bool true) pb5)
        replace hB : Below w.heap.size w (((((W4.setCell ⟨g5, 0, none⟩ (.int .i64 s2)).setCell ⟨g5, 1, none⟩ (.slice A10 xs2.length c10)).setCell ⟨g5, 2, none⟩ (.int .i64 du2)).setCell ⟨g5, 3, none⟩ (.int .i64 le2)).setCell ⟨g5, 4, none⟩ (.bool true)) := by (repeat' (first | (with_reducible exact hB) | (with_reducible exact Below.refl _ _) | (with_reducible refine Below.setCell ?_ ?_ _) | (with_reducible refine Below.alloc ?_ ?_ _) | (with_reducible refine Below.drew ?_) | (simp; done) | omega | (simp; omega)))
        generalize (((((W4.setCell ⟨g5, 0, none⟩ (.int .i64 s2)).setCell ⟨g5, 1, none⟩ (.slice A10 xs2.length c10)).setCell ⟨g5, 2, none⟩ (.int .i64 du2)).setCell ⟨g5, 3, none⟩ (.int .i64 le2)).setCell ⟨g5, 4, none⟩ (.bool true)) = V6 at b5 b7 b12 hS10 hS12 hB ⊢
        have q := b12
        obtain ⟨-, k0, k1, k2, k3, k4, kf⟩ := q
        have q := b7
        obtain ⟨-, j0, j1, j2, j3, j4, jf⟩ := q
        go_upto_region 11 with fail
        clear k0 k1 k2 k3 k4 kf j0 j1 j2 j3 j4 jf
        replace b7 := b7.store (.int .i64 s2) (.slice A12 xs2.length c12) (.int .i64 du2) (.int .i64 le2) (.bool true)
        replace b5 := (Bx.far (Bx.far (Bx.far (Bx.far (Bx.far b5 ⟨g7, 0, none⟩ (.int .i64 s2) (by show g5 ≠ g7; omega)) ⟨g7, 1, none⟩ (.slice A12 xs2.length c12) (by show g5 ≠ g7; omega)) ⟨g7, 2, none⟩ (.int .i64 du2) (by show g5 ≠ g7; omega)) ⟨g7, 3, none⟩ (.int .i64 le2) (by show g5 ≠ g7; omega)) ⟨g7, 4, none⟩ (.bool true) (by show g5 ≠ g7; omega))
        replace hS10 := (Sl.setCell (Sl.setCell (Sl.setCell (Sl.setCell (Sl.setCell hS10 ⟨g7, 0, none⟩ (.int .i64 s2) pa7) ⟨g7, 1, none⟩ (.slice A12 xs2.length c12) pa7) ⟨g7, 2, none⟩ (.int .i64 du2) pa7) ⟨g7, 3, none⟩ (.int .i64 le2) pa7) ⟨g7, 4, none⟩ (.bool true) pa7)
        replace hS12 := (Sl.setCell (Sl.setCell (Sl.setCell (Sl.setCell (Sl.setCell hS12 ⟨g7, 0, none⟩ (.int .i64 s2) pb7) ⟨g7, 1, none⟩ (.slice A12 xs2.length c12) pb7) ⟨g7, 2, none⟩ (.int .i64 du2) pb7) ⟨g7, 3, none⟩ (.int .i64 le2) pb7) ⟨g7, 4, none⟩ (.bool true) pb7)
        replace hB : Below w.heap.size w (((((V6.setCell ⟨g7, 0, none⟩ (.int .i64 s2)).setCell ⟨g7, 1, none⟩ (.slice A12 xs2.length c12)).setCell ⟨g7, 2, none⟩ (.int .i64 du2)).setCell ⟨g7, 3, none⟩ (.int .i64 le2)).setCell ⟨g7, 4, none⟩ (.bool true)) := by (repeat' (first | (with_reducible exact hB) | (with_reducible exact Below.refl _ _) | (with_reducible refine Below.setCell ?_ ?_ _) | (with_reducible refine Below.alloc ?_ ?_ _) | (with_reducible refine Below.drew ?_) | (simp; done) | omega | (simp; omega)))
        generalize (((((V6.setCell ⟨g7, 0, none⟩ (.int .i64 s2)).setCell ⟨g7, 1, none⟩ (.slice A12 xs2.length c12)).setCell ⟨g7, 2, none⟩ (.int .i64 du2)).setCell ⟨g7, 3, none⟩ (.int .i64 le2)).setCell ⟨g7, 4, none⟩ (.bool true)) = V7 at b5 b7 hS10 hS12 hB ⊢
        go_wp2
        go_roundw
        case rel => exact Inv.mk w g5 g7 L.length _ _ (k + 1) s2 xs2 du2 le2 true A10 c10 A12 c12 (by omega) (by go_num) HO.out ⟨b5, b7, hS10, hS12, pa5, pa7, pb5, pb7, hlo, hne, hB⟩
        case measure => simp [intOf]; omega
      · simp only at h1
        subst h1
        go_upto_region 12 with fail
        have hop := HO0.out _ hst.bel
        have MK := Lib.hid (fun (X : World) (h : Below wr.heap.size wr X) => (⟨⟨(hst.b5.keep h).c0, (hst.b5.keep h).c1, (hst.b5.keep h).c2, (hst.b5.keep h).c3, (hst.b5.keep h).c4, (hop.keep h).c0, (hop.keep h).c1, (hop.keep h).c2⟩, h⟩ : (X.cell? ⟨g5, 0, none⟩ = some (.int .i64 s) ∧ X.cell? ⟨g5, 1, none⟩ = some (.slice A5 xs.length c5) ∧ X.cell? ⟨g5, 2, none⟩ = some (.int .i64 du) ∧ X.cell? ⟨g5, 3, none⟩ = some (.int .i64 le) ∧ X.cell? ⟨g5, 4, none⟩ = some (.bool dn) ∧ X.cell? ⟨b, off + k * 3, none⟩ = some (.int .i64 kd) ∧ X.cell? ⟨b, off + k * 3 + 1, none⟩ = some (.int .i64 m) ∧ X.cell? ⟨b, off + k * 3 + 2, none⟩ = some (.slice B ys.length cb)) ∧ Below wr.heap.size wr X))
        have hS := MK.out _ (Below.refl _ _).drew
        go_cut [10, 11] from 43 to 93 (fun p q wx => Mid w g5 g7 s xs du le dn A5 c5 A7 c7 s2 xs2 du2 le2 dn2 2 p q wx)
        case first =>
          go_region_held3 (fun X => (X.cell? ⟨g5, 0, none⟩ = some (.int .i64 s) ∧ X.cell? ⟨g5, 1, none⟩ = some (.slice A5 xs.length c5) ∧ X.cell? ⟨g5, 2, none⟩ = some (.int .i64 du) ∧ X.cell? ⟨g5, 3, none⟩ = some (.int .i64 le) ∧ X.cell? ⟨g5, 4, none⟩ = some (.bool dn) ∧ X.cell? ⟨b, off + k * 3, none⟩ = some (.int .i64 kd) ∧ X.cell? ⟨b, off + k * 3 + 1, none⟩ = some (.int .i64 m) ∧ X.cell? ⟨b, off + k * 3 + 2, none⟩ = some (.slice B ys.length cb)) ∧ Below wr.heap.size wr X)
            (first
              | with_reducible exact hS
              | with_reducible exact hS2
              | (refine MK.out _ ?_; (repeat' (first | (with_reducible exact hB0) | (with_reducible exact Below.refl _ _) | (with_reducible refine Below.setCell ?_ ?_ _) | (with_reducible refine Below.alloc ?_ ?_ _) | (with_reducible refine Below.drew ?_) | (simp; done) | omega | (simp; omega)))))
            (first
              | (go_at_call 13; refine (G1.out _ (hst.s5.keep (by (repeat' (first | (with_reducible exact hB0) | (with_reducible exact Below.refl _ _) | (with_reducible refine Below.setCell ?_ ?_ _) | (with_reducible refine Below.alloc ?_ ?_ _) | (with_reducible refine Below.drew ?_) | (simp; done) | omega | (simp; omega))))) (hop.sl.keep (by (repeat' (first | (with_reducible exact hB0) | (with_reducible exact Below.refl _ _) | (with_reducible refine Below.setCell ?_ ?_ _) | (with_reducible refine Below.alloc ?_ ?_ _) | (with_reducible refine Below.drew ?_) | (simp; done) | omega | (simp; omega)))))).mono ?_; rintro e W ⟨A10, c10, rfl, hS10, hs10, hb⟩; (dsimp only [dval] at hS10 hs10 ⊢); (have hB0 : Below wr.heap.size wr W := below_step (by (repeat' (first | (with_reducible exact hB0) | (with_reducible exact Below.refl _ _) | (with_reducible refine Below.setCell ?_ ?_ _) | (with_reducible refine Below.alloc ?_ ?_ _) | (with_reducible refine Below.drew ?_) | (simp; done) | omega | (simp; omega)))) hb); (have hS2 := MK.out _ hB0); (have hz2 := hB0.size); (first | (have bz : Bx W wr.heap.size (.int .i64 0) (.slice none 0 0) (.int .i64 0) (.int .i64 0) (.bool false) := (Bx.new wr.drew (.int .i64 0) (.slice none 0 0) (.int .i64 0) (.int .i64 0) (.bool false)).keep hb; have z5 := bz.lt; obtain ⟨-, z0, z1, z2, z3, z4, zf⟩ := bz) | (have bz : Bx W wr.heap.size (.int .i64 0) (.slice none 0 0) (.int .i64 0) (.int .i64 0) (.bool false) := ((Bx.new wr (.int .i64 0) (.slice none 0 0) (.int .i64 0) (.int .i64 0) (.bool false)).keep (Below.refl _ _).drew).keep hb; have z5 := bz.lt; obtain ⟨-, z0, z1, z2, z3, z4, zf⟩ := bz) | skip)))
          · go_wp2_with fail
            go_meet
            have pg5 := hs10 g5 (by have := hst.b5.lt; simp; omega) hst.p55
            have pg7 := hs10 g7 (by have := hst.b7.lt; simp; omega) hst.p57
            have bel : Below wr.heap.size wr (W.alloc (.cells #[.int .i64 s2, .slice A10 xs2.length c10, .int .i64 du2, .int .i64 le2, .bool dn2] 27)) := by (repeat' (first | (with_reducible exact hB0) | (with_reducible exact Below.refl _ _) | (with_reducible refine Below.setCell ?_ ?_ _) | (with_reducible refine Below.alloc ?_ ?_ _) | (with_reducible refine Below.drew ?_) | (simp; done) | omega | (simp; omega)))
            exact ⟨W.heap.size, A10, c10, rfl, rfl, by have := hst.b7.lt; omega, (Bx.new W (.int .i64 s2) (.slice A10 xs2.length c10) (.int .i64 du2) (.int .i64 le2) (.bool dn2)), (hS10.alloc _), pg5, pg7, hst.keep bel⟩
          · go_wp2_with fail
            go_meet
            have pg5 := hs10 g5 (by have := hst.b5.lt; simp; omega) hst.p55
            have pg7 := hs10 g7 (by have := hst.b7.lt; simp; omega) hst.p57
            have pz := hs10 wr.heap.size (by simp) (hst.s5.apart (Nat.le_refl _))
            have bel : Below wr.heap.size wr ((((((W.setCell ⟨wr.heap.size, 0, none⟩ (.int .i64 s2)).setCell ⟨wr.heap.size, 1, none⟩ (.slice A10 xs2.length c10)).setCell ⟨wr.heap.size, 2, none⟩ (.int .i64 du2)).setCell ⟨wr.heap.size, 3, none⟩ (.int .i64 le2)).setCell ⟨wr.heap.size, 4, none⟩ (.bool dn2))) := by (repeat' (first | (with_reducible exact hB0) | (with_reducible exact Below.refl _ _) | (with_reducible refine Below.setCell ?_ ?_ _) | (with_reducible refine Below.alloc ?_ ?_ _) | (with_reducible refine Below.drew ?_) | (simp; done) | omega | (simp; omega)))
            exact ⟨wr.heap.size, A10, c10, rfl, rfl, by have := hst.b7.lt; omega, ((⟨z5, z0, z1, z2, z3, z4, zf⟩ : Bx W wr.heap.size _ _ _ _ _).store (.int .i64 s2) (.slice A10 xs2.length c10) (.int .i64 du2) (.int .i64 le2) (.bool dn2)), (Sl.setCell (Sl.setCell (Sl.setCell (Sl.setCell (Sl.setCell hS10 ⟨wr.heap.size, 0, none⟩ (.int .i64 s2) pz) ⟨wr.heap.size, 1, none⟩ (.slice A10 xs2.length c10) pz) ⟨wr.heap.size, 2, none⟩ (.int .i64 du2) pz) ⟨wr.heap.size, 3, none⟩ (.int .i64 le2) pz) ⟨wr.heap.size, 4, none⟩ (.bool dn2) pz), pg5, pg7, hst.keep bel⟩
        case rest =>
        clear MK hS hop hst
        obtain ⟨g10, A10, c10, rfl, rfl, hl10, b10, hS10, pa5, pa7, hst⟩ := hcut
        go_wp2_with fail
        go_upto_region 13 with fail
        have hop := HO0.out _ hst.bel
        have MK := Lib.hid (fun (X : World) (h : Below wc.heap.size wc X) => (⟨⟨(hst.b7.keep h).c0, (hst.b7.keep h).c1, (hst.b7.keep h).c2, (hst.b7.keep h).c3, (hst.b7.keep h).c4, (hop.keep h).c0, (hop.keep h).c1, (hop.keep h).c2⟩, h⟩ : (X.cell? ⟨g7, 0, none⟩ = some (.int .i64 s) ∧ X.cell? ⟨g7, 1, none⟩ = some (.slice A7 xs.length c7) ∧ X.cell? ⟨g7, 2, none⟩ = some (.int .i64 du) ∧ X.cell? ⟨g7, 3, none⟩ = some (.int .i64 le) ∧ X.cell? ⟨g7, 4, none⟩ = some (.bool dn) ∧ X.cell? ⟨b, off + k * 3, none⟩ = some (.int .i64 kd) ∧ X.cell? ⟨b, off + k * 3 + 1, none⟩ = some (.int .i64 m) ∧ X.cell? ⟨b, off + k * 3 + 2, none⟩ = some (.slice B ys.length cb)) ∧ Below wc.heap.size wc X))
        have hS := MK.out _ (Below.refl _ _).drew
        go_cut [12, 13] from 43 to 93 (fun p q wx => Mid2 w g5 g7 s xs du le dn A5 c5 A7 c7 s2 xs2 du2 le2 dn2 2 g10 A10 c10 p q wx)
        case first =>
          go_region_held3 (fun X => (X.cell? ⟨g7, 0, none⟩ = some (.int .i64 s) ∧ X.cell? ⟨g7, 1, none⟩ = some (.slice A7 xs.length c7) ∧ X.cell? ⟨g7, 2, none⟩ = some (.int .i64 du) ∧ X.cell? ⟨g7, 3, none⟩ = some (.int .i64 le) ∧ X.cell? ⟨g7, 4, none⟩ = some (.bool dn) ∧ X.cell? ⟨b, off + k * 3, none⟩ = some (.int .i64 kd) ∧ X.cell? ⟨b, off + k * 3 + 1, none⟩ = some (.int .i64 m) ∧ X.cell? ⟨b, off + k * 3 + 2, none⟩ = some (.slice B ys.length cb)) ∧ Below wc.heap.size wc X)
            (first
              | with_reducible exact hS
              | with_reducible exact hS2
              | (refine MK.out _ ?_; (repeat' (first | (with_reducible exact hB0) | (with_reducible exact Below.refl _ _) | (with_reducible refine Below.setCell ?_ ?_ _) | (with_reducible refine Below.alloc ?_ ?_ _) | (with_reducible refine Below.drew ?_) | (simp; done) | omega | (simp; omega)))))
            (first
              | (go_at_call 14; refine (G2.out _ (hst.s7.keep (by (repeat' (first | (with_reducible exact hB0) | (with_reducible exact Below.refl _ _) | (with_reducible refine Below.setCell ?_ ?_ _) | (with_reducible refine Below.alloc ?_ ?_ _) | (with_reducible refine Below.drew ?_) | (simp; done) | omega | (simp; omega))))) (hop.sl.keep (by (repeat' (first | (with_reducible exact hB0) | (with_reducible exact Below.refl _ _) | (with_reducible refine Below.setCell ?_ ?_ _) | (with_reducible refine Below.alloc ?_ ?_ _) | (with_reducible refine Below.drew ?_) | (simp; done) | omega | (simp; omega)))))).mono ?_; rintro e W ⟨A12, c12, rfl, hS12, hs12, hb⟩; (dsimp only [dval] at hS12 hs12 ⊢); (have hB0 : Below wc.heap.size wc W := below_step (by (repeat' (first | (with_reducible exact hB0) | (with_reducible exact Below.refl _ _) | (with_reducible refine Below.setCell ?_ ?_ _) | (with_reducible refine Below.alloc ?_ ?_ _) | (with_reducible refine Below.drew ?_) | (simp; done) | omega | (simp; omega)))) hb); (have hS2 := MK.out _ hB0); (have hz2 := hB0.size); (first | (have bz : Bx W wc.heap.size (.int .i64 0) (.slice none 0 0) (.int .i64 0) (.int .i64 0) (.bool false) := (Bx.new wc.drew (.int .i64 0) (.slice none 0 0) (.int .i64 0) (.int .i64 0) (.bool false)).keep hb; have z5 := bz.lt; obtain ⟨-, z0, z1, z2, z3, z4, zf⟩ := bz) | (have bz : Bx W wc.heap.size (.int .i64 0) (.slice none 0 0) (.int .i64 0) (.int .i64 0) (.bool false) := ((Bx.new wc (.int .i64 0) (.slice none 0 0) (.int .i64 0) (.int .i64 0) (.bool false)).keep (Below.refl _ _).drew).keep hb; have z5 := bz.lt; obtain ⟨-, z0, z1, z2, z3, z4, zf⟩ := bz) | skip)))
          · go_wp2_with fail
            go_meet
            have pg5 := hs12 g5 (by have := hst.b5.lt; simp; omega) hst.p75
            have pg7 := hs12 g7 (by have := hst.b7.lt; simp; omega) hst.p77
            have bel : Below wc.heap.size wc (W.alloc (.cells #[.int .i64 s2, .slice A12 xs2.length c12, .int .i64 du2, .int .i64 le2, .bool dn2] 27)) := by (repeat' (first | (with_reducible exact hB0) | (with_reducible exact Below.refl _ _) | (with_reducible refine Below.setCell ?_ ?_ _) | (with_reducible refine Below.alloc ?_ ?_ _) | (with_reducible refine Below.drew ?_) | (simp; done) | omega | (simp; omega)))
            exact ⟨W.heap.size, A12, c12, rfl, rfl, by have := b10.lt; omega, (Bx.new W (.int .i64 s2) (.slice A12 xs2.length c12) (.int .i64 du2) (.int .i64 le2) (.bool dn2)), (hS12.alloc _), pg5, pg7, b10.keep bel, hS10.keep bel, hst.keep bel⟩
          · go_wp2_with fail
            go_meet
            have pg5 := hs12 g5 (by have := hst.b5.lt; simp; omega) hst.p75
            have pg7 := hs12 g7 (by have := hst.b7.lt; simp; omega) hst.p77
            have pz := hs12 wc.heap.size (by simp) (hst.s7.apart (Nat.le_refl _))
            have bel : Below wc.heap.size wc ((((((W.setCell ⟨wc.heap.size, 0, none⟩ (.int .i64 s2)).setCell ⟨wc.heap.size, 1, none⟩ (.slice A12 xs2.length c12)).setCell ⟨wc.heap.size, 2, none⟩ (.int .i64 du2)).setCell ⟨wc.heap.size, 3, none⟩ (.int .i64 le2)).setCell ⟨wc.heap.size, 4, none⟩ (.bool dn2))) := by (repeat' (first | (with_reducible exact hB0) | (with_reducible exact Below.refl _ _) | (with_reducible refine Below.setCell ?_ ?_ _) | (with_reducible refine Below.alloc ?_ ?_ _) | (with_reducible refine Below.drew ?_) | (simp; done) | omega | (simp; omega)))
            exact ⟨wc.heap.size, A12, c12, rfl, rfl, by have := b10.lt; omega, ((⟨z5, z0, z1, z2, z3, z4, zf⟩ : Bx W wc.heap.size _ _ _ _ _).store (.int .i64 s2) (.slice A12 xs2.length c12) (.int .i64 du2) (.int .i64 le2) (.bool dn2)), (Sl.setCell (Sl.setCell (Sl.setCell (Sl.setCell (Sl.setCell hS12 ⟨wc.heap.size, 0, none⟩ (.int .i64 s2) pz) ⟨wc.heap.size, 1, none⟩ (.slice A12 xs2.length c12) pz) ⟨wc.heap.size, 2, none⟩ (.int .i64 du2) pz) ⟨wc.heap.size, 3, none⟩ (.int .i64 le2) pz) ⟨wc.heap.size, 4, none⟩ (.bool dn2) pz), pg5, pg7, b10.keep bel, hS10.keep bel, hst.keep bel⟩
        case rest =>
        clear MK hS hop hst b10 hS10
        obtain ⟨g12, A12, c12, rfl, rfl, hl12, b12, hS12, pb5, pb7, b10, hS10, hst⟩ := hcut
        have q := b10
        have q2 := b12
        obtain ⟨-, k0, k1, k2, k3, k4, kf⟩ := q
        obtain ⟨-, j0, j1, j2, j3, j4, jf⟩ := q2
        go_wp2_with fail
        refine (same_eq s2 xs2 du2 le2 dn2 A10 A12 c10 c12 _ hS10 hS12).mono ?_
        rintro e W3 ⟨rfl, hb⟩
        clear k0 k1 k2 k3 k4 kf j0 j1 j2 j3 j4 jf
        replace hst := hst.keep hb
        replace b10 := b10.keep hb
        replace b12 := b12.keep hb
        replace hS10 := hS10.keep hb
        replace hS12 := hS12.keep hb
        clear hb
        go_wp2
        go_roundw
        case rel => exact Inv.mk w g5 g7 L.length _ _ (k + 1) s xs du le dn A5 c5 A7 c7 (by omega) (by go_num) HD.out hst
        case measure => simp [intOf]; omega
      · simp only at h1
        subst h1
        go_upto_region 12 with fail
        have hop := HO0.out _ hst.bel
        have MK := Lib.hid (fun (X : World) (h : Below wr.heap.size wr X) => (⟨⟨(hst.b5.keep h).c0, (hst.b5.keep h).c1, (hst.b5.keep h).c2, (hst.b5.keep h).c3, (hst.b5.keep h).c4, (hop.keep h).c0, (hop.keep h).c1, (hop.keep h).c2⟩, h⟩ : (X.cell? ⟨g5, 0, none⟩ = some (.int .i64 s) ∧ X.cell? ⟨g5, 1, none⟩ = some (.slice A5 xs.length c5) ∧ X.cell? ⟨g5, 2, none⟩ = some (.int .i64 du) ∧ X.cell? ⟨g5, 3, none⟩ = some (.int .i64 le) ∧ X.cell? ⟨g5, 4, none⟩ = some (.bool dn) ∧ X.cell? ⟨b, off + k * 3, none⟩ = some (.int .i64 kd) ∧ X.cell? ⟨b, off + k * 3 + 1, none⟩ = some (.int .i64 m) ∧ X.cell? ⟨b, off + k * 3 + 2, none⟩ = some (.slice B ys.length cb)) ∧ Below wr.heap.size wr X))
        have hS := MK.out _ (Below.refl _ _).drew
        go_cut [10, 11] from 43 to 93 (fun p q wx => Mid w g5 g7 s xs du le dn A5 c5 A7 c7 s2 xs2 du2 le2 dn2 6 p q wx)
        case first =>
          go_region_held3 (fun X => (X.cell? ⟨g5, 0, none⟩ = some (.int .i64 s) ∧ X.cell? ⟨g5, 1, none⟩ = some (.slice A5 xs.length c5) ∧ X.cell? ⟨g5, 2, none⟩ = some (.int .i64 du) ∧ X.cell? ⟨g5, 3, none⟩ = some (.int .i64 le) ∧ X.cell? ⟨g5, 4, none⟩ = some (.bool dn) ∧ X.cell? ⟨b, off + k * 3, none⟩ = some (.int .i64 kd) ∧ X.cell? ⟨b, off + k * 3 + 1, none⟩ = some (.int .i64 m) ∧ X.cell? ⟨b, off + k * 3 + 2, none⟩ = some (.slice B ys.length cb)) ∧ Below wr.heap.size wr X)
            (first
              | with_reducible exact hS
              | with_reducible exact hS2
              | (refine MK.out _ ?_; (repeat' (first | (with_reducible exact hB0) | (with_reducible exact Below.refl _ _) | (with_reducible refine Below.setCell ?_ ?_ _) | (with_reducible refine Below.alloc ?_ ?_ _) | (with_reducible refine Below.drew ?_) | (simp; done) | omega | (simp; omega)))))
            (first
              | (go_at_call 13; refine (G1.out _ (hst.s5.keep (by (repeat' (first | (with_reducible exact hB0) | (with_reducible exact Below.refl _ _) | (with_reducible refine Below.setCell ?_ ?_ _) | (with_reducible refine Below.alloc ?_ ?_ _) | (with_reducible refine Below.drew ?_) | (simp; done) | omega | (simp; omega))))) (hop.sl.keep (by (repeat' (first | (with_reducible exact hB0) | (with_reducible exact Below.refl _ _) | (with_reducible refine Below.setCell ?_ ?_ _) | (with_reducible refine Below.alloc ?_ ?_ _) | (with_reducible refine Below.drew ?_) | (simp; done) | omega | (simp; omega)))))).mono ?_; rintro e W ⟨A10, c10, rfl, hS10, hs10, hb⟩; (dsimp only [dval] at hS10 hs10 ⊢); (have hB0 : Below wr.heap.size wr W := below_step (by (repeat' (first | (with_reducible exact hB0) | (with_reducible exact Below.refl _ _) | (with_reducible refine Below.setCell ?_ ?_ _) | (with_reducible refine Below.alloc ?_ ?_ _) | (with_reducible refine Below.drew ?_) | (simp; done) | omega | (simp; omega)))) hb); (have hS2 := MK.out _ hB0); (have hz2 := hB0.size); (first | (have bz : Bx W wr.heap.size (.int .i64 0) (.slice none 0 0) (.int .i64 0) (.int .i64 0) (.bool false) := (Bx.new wr.drew (.int .i64 0) (.slice none 0 0) (.int .i64 0) (.int .i64 0) (.bool false)).keep hb; have z5 := bz.lt; obtain ⟨-, z0, z1, z2, z3, z4, zf⟩ := bz) | (have bz : Bx W wr.heap.size (.int .i64 0) (.slice none 0 0) (.int .i64 0) (.int .i64 0) (.bool false) := ((Bx.new wr (.int .i64 0) (.slice none 0 0) (.int .i64 0) (.int .i64 0) (.bool false)).keep (Below.refl _ _).drew).keep hb; have z5 := bz.lt; obtain ⟨-, z0, z1, z2, z3, z4, zf⟩ := bz) | skip)))
          · go_wp2_with fail
            go_meet
            have pg5 := hs10 g5 (by have := hst.b5.lt; simp; omega) hst.p55
            have pg7 := hs10 g7 (by have := hst.b7.lt; simp; omega) hst.p57
            have bel : Below wr.heap.size wr (W.alloc (.cells #[.int .i64 s2, .slice A10 xs2.length c10, .int .i64 du2, .int .i64 le2, .bool dn2] 27)) := by (repeat' (first | (with_reducible exact hB0) | (with_reducible exact Below.refl _ _) | (with_reducible refine Below.setCell ?_ ?_ _) | (with_reducible refine Below.alloc ?_ ?_ _) | (with_reducible refine Below.drew ?_) | (simp; done) | omega | (simp; omega)))
            exact ⟨W.heap.size, A10, c10, rfl, rfl, by have := hst.b7.lt; omega, (Bx.new W (.int .i64 s2) (.slice A10 xs2.length c10) (.int .i64 du2) (.int .i64 le2) (.bool dn2)), (hS10.alloc _), pg5, pg7, hst.keep bel⟩
          · go_wp2_with fail
            go_meet
            have pg5 := hs10 g5 (by have := hst.b5.lt; simp; omega) hst.p55
            have pg7 := hs10 g7 (by have := hst.b7.lt; simp; omega) hst.p57
            have pz := hs10 wr.heap.size (by simp) (hst.s5.apart (Nat.le_refl _))
            have bel : Below wr.heap.size wr ((((((W.setCell ⟨wr.heap.size, 0, none⟩ (.int .i64 s2)).setCell ⟨wr.heap.size, 1, none⟩ (.slice A10 xs2.length c10)).setCell ⟨wr.heap.size, 2, none⟩ (.int .i64 du2)).setCell ⟨wr.heap.size, 3, none⟩ (.int .i64 le2)).setCell ⟨wr.heap.size, 4, none⟩ (.bool dn2))) := by (repeat' (first | (with_reducible exact hB0) | (with_reducible exact Below.refl _ _) | (with_reducible refine Below.setCell ?_ ?_ _) | (with_reducible refine Below.alloc ?_ ?_ _) | (with_reducible refine Below.drew ?_) | (simp; done) | omega | (simp; omega)))
            exact ⟨wr.heap.size, A10, c10, rfl, rfl, by have := hst.b7.lt; omega, ((⟨z5, z0, z1, z2, z3, z4, zf⟩ : Bx W wr.heap.size _ _ _ _ _).store (.int .i64 s2) (.slice A10 xs2.length c10) (.int .i64 du2) (.int .i64 le2) (.bool dn2)), (Sl.setCell (Sl.setCell (Sl.setCell (Sl.setCell (Sl.setCell hS10 ⟨wr.heap.size, 0, none⟩ (.int .i64 s2) pz) ⟨wr.heap.size, 1, none⟩ (.slice A10 xs2.length c10) pz) ⟨wr.heap.size, 2, none⟩ (.int .i64 du2) pz) ⟨wr.heap.size, 3, none⟩ (.int .i64 le2) pz) ⟨wr.heap.size, 4, none⟩ (.bool dn2) pz), pg5, pg7, hst.keep bel⟩
        case rest =>
        clear MK hS hop hst
        obtain ⟨g10, A10, c10, rfl, rfl, hl10, b10, hS10, pa5, pa7, hst⟩ := hcut
        go_wp2_with fail
        go_upto_region 13 with fail
        have hop := HO0.out _ hst.bel
        have MK := Lib.hid (fun (X : World) (h : Below wc.heap.size wc X) => (⟨⟨(hst.b7.keep h).c0, (hst.b7.keep h).c1, (hst.b7.keep h).c2, (hst.b7.keep h).c3, (hst.b7.keep h).c4, (hop.keep h).c0, (hop.keep h).c1, (hop.keep h).c2⟩, h⟩ : (X.cell? ⟨g7, 0, none⟩ = some (.int .i64 s) ∧ X.cell? ⟨g7, 1, none⟩ = some (.slice A7 xs.length c7) ∧ X.cell? ⟨g7, 2, none⟩ = some (.int .i64 du) ∧ X.cell? ⟨g7, 3, none⟩ = some (.int .i64 le) ∧ X.cell? ⟨g7, 4, none⟩ = some (.bool dn) ∧ X.cell? ⟨b, off + k * 3, none⟩ = some (.int .i64 kd) ∧ X.cell? ⟨b, off + k * 3 + 1, none⟩ = some (.int .i64 m) ∧ X.cell? ⟨b, off + k * 3 + 2, none⟩ = some (.slice B ys.length cb)) ∧ Below wc.heap.size wc X))
        have hS := MK.out _ (Below.refl _ _).drew
        go_cut [12, 13] from 43 to 93 (fun p q wx => Mid2 w g5 g7 s xs du le dn A5 c5 A7 c7 s2 xs2 du2 le2 dn2 6 g10 A10 c10 p q wx)
        case first =>
          go_region_held3 (fun X => (X.cell? ⟨g7, 0, none⟩ = some (.int .i64 s) ∧ X.cell? ⟨g7, 1, none⟩ = some (.slice A7 xs.length c7) ∧ X.cell? ⟨g7, 2, none⟩ = some (.int .i64 du) ∧ X.cell? ⟨g7, 3, none⟩ = some (.int .i64 le) ∧ X.cell? ⟨g7, 4, none⟩ = some (.bool dn) ∧ X.cell? ⟨b, off + k * 3, none⟩ = some (.int .i64 kd) ∧ X.cell? ⟨b, off + k * 3 + 1, none⟩ = some (.int .i64 m) ∧ X.cell? ⟨b, off + k * 3 + 2, none⟩ = some (.slice B ys.length cb)) ∧ Below wc.heap.size wc X)
            (first
              | with_reducible exact hS
              | with_reducible exact hS2
              | (refine MK.out _ ?_; (repeat' (first | (with_reducible exact hB0) | (with_reducible exact Below.refl _ _) | (with_reducible refine Below.setCell ?_ ?_ _) | (with_reducible refine Below.alloc ?_ ?_ _) | (with_reducible refine Below.drew ?_) | (simp; done) | omega | (simp; omega)))))
            (first
              | (go_at_call 14; refine (G2.out _ (hst.s7.keep (by (repeat' (first | (with_reducible exact hB0) | (with_reducible exact Below.refl _ _) | (with_reducible refine Below.setCell ?_ ?_ _) | (with_reducible refine Below.alloc ?_ ?_ _) | (with_reducible refine Below.drew ?_) | (simp; done) | omega | (simp; omega))))) (hop.sl.keep (by (repeat' (first | (with_reducible exact hB0) | (with_reducible exact Below.refl _ _) | (with_reducible refine Below.setCell ?_ ?_ _) | (with_reducible refine Below.alloc ?_ ?_ _) | (with_reducible refine Below.drew ?_) | (simp; done) | omega | (simp; omega)))))).mono ?_; rintro e W ⟨A12, c12, rfl, hS12, hs12, hb⟩; (dsimp only [dval] at hS12 hs12 ⊢); (have hB0 : Below wc.heap.size wc W := below_step (by (repeat' (first | (with_reducible exact hB0) | (with_reducible exact Below.refl _ _) | (with_reducible refine Below.setCell ?_ ?_ _) | (with_reducible refine Below.alloc ?_ ?_ _) | (with_reducible refine Below.drew ?_) | (simp; done) | omega | (simp; omega)))) hb); (have hS2 := MK.out _ hB0); (have hz2 := hB0.size); (first | (have bz : Bx W wc.heap.size (.int .i64 0) (.slice none 0 0) (.int .i64 0) (.int .i64 0) (.bool false) := (Bx.new wc.drew (.int .i64 0) (.slice none 0 0) (.int .i64 0) (.int .i64 0) (.bool false)).keep hb; have z5 := bz.lt; obtain ⟨-, z0, z1, z2, z3, z4, zf⟩ := bz) | (have bz : Bx W wc.heap.size (.int .i64 0) (.slice none 0 0) (.int .i64 0) (.int .i64 0) (.bool false) := ((Bx.new wc (.int .i64 0) (.slice none 0 0) (.int .i64 0) (.int .i64 0) (.bool false)).keep (Below.refl _ _).drew).keep hb; have z5 := bz.lt; obtain ⟨-, z0, z1, z2, z3, z4, zf⟩ := bz) | skip)))
          · go_wp2_with fail
            go_meet
            have pg5 := hs12 g5 (by have := hst.b5.lt; simp; omega) hst.p75
            have pg7 := hs12 g7 (by have := hst.b7.lt; simp; omega) hst.p77
            have bel : Below wc.heap.size wc (W.alloc (.cells #[.int .i64 s2, .slice A12 xs2.length c12, .int .i64 du2, .int .i64 le2, .bool dn2] 27)) := by (repeat' (first | (with_reducible exact hB0) | (with_reducible exact Below.refl _ _) | (with_reducible refine Below.setCell ?_ ?_ _) | (with_reducible refine Below.alloc ?_ ?_ _) | (with_reducible refine Below.drew ?_) | (simp; done) | omega | (simp; omega)))
            exact ⟨W.heap.size, A12, c12, rfl, rfl, by have := b10.lt; omega, (Bx.new W (.int .i64 s2) (.slice A12 xs2.length c12) (.int .i64 du2) (.int .i64 le2) (.bool dn2)), (hS12.alloc _), pg5, pg7, b10.keep bel, hS10.keep bel, hst.keep bel⟩
          · go_wp2_with fail
            go_meet
            have pg5 := hs12 g5 (by have := hst.b5.lt; simp; omega) hst.p75
            have pg7 := hs12 g7 (by have := hst.b7.lt; simp; omega) hst.p77
            have pz := hs12 wc.heap.size (by simp) (hst.s7.apart (Nat.le_refl _))
            have bel : Below wc.heap.size wc ((((((W.setCell ⟨wc.heap.size, 0, none⟩ (.int .i64 s2)).setCell ⟨wc.heap.size, 1, none⟩ (.slice A12 xs2.length c12)).setCell ⟨wc.heap.size, 2, none⟩ (.int .i64 du2)).setCell ⟨wc.heap.size, 3, none⟩ (.int .i64 le2)).setCell ⟨wc.heap.size, 4, none⟩ (.bool dn2))) := by (repeat' (first | (with_reducible exact hB0) | (with_reducible exact Below.refl _ _) | (with_reducible refine Below.setCell ?_ ?_ _) | (with_reducible refine Below.alloc ?_ ?_ _) | (with_reducible refine Below.drew ?_) | (simp; done) | omega | (simp; omega)))
            exact ⟨wc.heap.size, A12, c12, rfl, rfl, by have := b10.lt; omega, ((⟨z5, z0, z1, z2, z3, z4, zf⟩ : Bx W wc.heap.size _ _ _ _ _).store (.int .i64 s2) (.slice A12 xs2.length c12) (.int .i64 du2) (.int .i64 le2) (.bool dn2)), (Sl.setCell (Sl.setCell (Sl.setCell (Sl.setCell (Sl.setCell hS12 ⟨wc.heap.size, 0, none⟩ (.int .i64 s2) pz) ⟨wc.heap.size, 1, none⟩ (.slice A12 xs2.length c12) pz) ⟨wc.heap.size, 2, none⟩ (.int .i64 du2) pz) ⟨wc.heap.size, 3, none⟩ (.int .i64 le2) pz) ⟨wc.heap.size, 4, none⟩ (.bool dn2) pz), pg5, pg7, b10.keep bel, hS10.keep bel, hst.keep bel⟩
        case rest =>
        clear MK hS hop hst b10 hS10
        obtain ⟨g12, A12, c12, rfl, rfl, hl12, b12, hS12, pb5, pb7, b10, hS10, hst⟩ := hcut
        have q := b10
        have q2 := b12
        obtain ⟨-, k0, k1, k2, k3, k4, kf⟩ := q
        obtain ⟨-, j0, j1, j2, j3, j4, jf⟩ := q2
        go_wp2_with fail
        refine (same_eq s2 xs2 du2 le2 dn2 A10 A12 c10 c12 _ hS10 hS12).mono ?_
        rintro e W3 ⟨rfl, hb⟩
        clear k0 k1 k2 k3 k4 kf j0 j1 j2 j3 j4 jf
        replace hst := hst.keep hb
        replace b10 := b10.keep hb
        replace b12 := b12.keep hb
        replace hS10 := hS10.keep hb
        replace hS12 := hS12.keep hb
        clear hb
        go_wp2
        go_roundw
        case rel => exact Inv.mk w g5 g7 L.length _ _ (k + 1) s xs du le dn A5 c5 A7 c7 (by omega) (by go_num) HD.out hst
        case measure => simp [intOf]; omega
    · go_wp2
      go_ret
      exact ⟨rfl, hst.bel⟩

set_option maxRecDepth 100000 in
set_option maxHeartbeats 1600000 in
theorem walk_few (s0 : Int) (a : Option Addr) (cap : Nat) (L : List OpD) (w : World) (hL : OpsIn w a cap L) (hfew : fewB L = false) :
    Calls Try.prog 3 #[.int .i64 s0, .slice a L.length cap] w fun e w' => e = .returned (.bool true) ∧ Below w.heap.size w w' := by
  have F := Lib.hid (fun (W : World) (h : OpsIn W a cap L) => few_any a cap L W h)
  rw [hfew] at F
  clear hfew
  go_enter Try.func3, Try.ntmps3
  go_wp2_with fail
  refine (awake_any _).mono ?_
  rintro e W ⟨rfl, hB⟩
  go_wp2_with fail
  refine (F.out _ (hL.keep hB)).mono ?_
  rintro e W' ⟨rfl, rfl⟩
  go_wp2_with fail
  refine (awake_any _).mono ?_
  rintro e W2 ⟨rfl, hb⟩
  go_wp2
  go_ret
  exact ⟨rfl, below_step hB hb⟩
set_option maxRecDepth 100000 in
set_option maxHeartbeats 1600000 in
theorem walk_bad (s0 : Int) (a : Option Addr) (cap : Nat) (L : List OpD) (w : World) (hL : OpsIn w a cap L) (hfew : fewB L = true) (hok : newF s0 = (dz, 2)) :
    Calls Try.prog 3 #[.int .i64 s0, .slice a L.length cap] w fun e w' => e = .returned (.bool true) ∧ Below w.heap.size w w' := by
  have F := Lib.hid (fun (W : World) (h : OpsIn W a cap L) => few_any a cap L W h)
  rw [hfew] at F
  have N1 := Lib.hid (fun W : World => new_gives s0 W none [])
  have N2 := Lib.hid (fun W : World => rnew_gives s0 W none [])
  rw [hok] at N1 N2
  clear hfew hok
  go_enter Try.func3, Try.ntmps3
  go_wp2_with fail
  refine (awake_any _).mono ?_
  rintro e W ⟨rfl, hB⟩
  go_wp2_with fail
  refine (F.out _ (hL.keep hB)).mono ?_
  rintro e W' ⟨rfl, rfl⟩
  go_wp2_with fail
  refine (N1.out _).mono ?_
  rintro e W2 ⟨A5, c5, rfl, hS5, -, hb⟩
  dsimp only [dval, dz, List.length_nil] at hS5 ⊢
  replace hB := below_step hB hb
  clear hb
  go_upto_region 4 with fail
  have b5 := Bx.new W2 (.int .i64 0) (.slice A5 0 c5) (.int .i64 0) (.int .i64 0) (.bool false)
  replace hB := hB.alloc hB.size (.cells #[.int .i64 0, .slice A5 0 c5, .int .i64 0, .int .i64 0, .bool false] 27)
  replace hS5 := hS5.alloc (.cells #[.int .i64 0, .slice A5 0 c5, .int .i64 0, .int .i64 0, .bool false] 27)
  generalize W2.alloc (.cells #[.int .i64 0, .slice A5 0 c5, .int .i64 0, .int .i64 0, .bool false] 27) = V at b5 hB hS5 ⊢
  generalize W2.heap.size = g5 at b5 ⊢
  go_wp2_with fail
  refine (N2.out _).mono ?_
  rintro e W3 ⟨A7, c7, rfl, hS7, -, hb⟩
  dsimp only [dval, dz, List.length_nil] at hS7 ⊢
  replace hB := below_step hB hb
  replace b5 := b5.keep hb
  replace hS5 := hS5.keep hb
  clear hb
  go_upto_region 5 with fail
  have b7 := Bx.new W3 (.int .i64 0) (.slice A7 0 c7) (.int .i64 0) (.int .i64 0) (.bool false)
  have hne : g5 < W3.heap.size := b5.lt
  replace b5 := b5.alloc (.cells #[.int .i64 0, .slice A7 0 c7, .int .i64 0, .int .i64 0, .bool false] 27)
  replace hB := hB.alloc hB.size (.cells #[.int .i64 0, .slice A7 0 c7, .int .i64 0, .int .i64 0, .bool false] 27)
  replace hS5 := hS5.alloc (.cells #[.int .i64 0, .slice A7 0 c7, .int .i64 0, .int .i64 0, .bool false] 27)
  replace hS7 := hS7.alloc (.cells #[.int .i64 0, .slice A7 0 c7, .int .i64 0, .int .i64 0, .bool false] 27)
  generalize W3.alloc (.cells #[.int .i64 0, .slice A7 0 c7, .int .i64 0, .int .i64 0, .bool false] 27) = V1 at b5 b7 hB hS5 hS7 ⊢
  generalize W3.heap.size = g7 at b7 hne ⊢
  obtain ⟨-, k0, k1, k2, k3, k4, kf⟩ := b5
  obtain ⟨-, j0, j1, j2, j3, j4, jf⟩ := b7
  go_wp2_with fail
  refine (same_eq 0 [] 0 0 false A5 A7 c5 c7 _ hS5 hS7).mono ?_
  rintro e W4 ⟨rfl, hb⟩
  go_wp2
  go_ret
  exact ⟨rfl, below_step hB hb⟩
theorem walk (s0 : Int) (a : Option Addr) (cap : Nat) (L : List OpD) (w : World) (_ : (Lit.int .i64 s0).wf = true) (hL : OpsIn w a cap L) :
    Calls Try.prog 3 #[.int .i64 s0, .slice a L.length cap] w fun e w' => e = .returned (.bool true) ∧ Below w.heap.size w w' := by
  cases hf : fewB L
  · exact walk_few s0 a cap L w hL hf
  · rcases newF_fine s0 with h | ⟨h, hv⟩
    · exact walk_bad s0 a cap L w hL hf h
    · exact walk_main s0 a cap L w hL hf h hv

set_option maxRecDepth 100000 in
theorem lifted (os : Os) (started : os.Started) (H : Type) (enc : TypeId × Value → H) :
    ReturnsInHanded {} Try.checked os 3 .any (Rows.diskPlaysSpec.pre6 enc Try.prog Try.f3 Rows.diskPlaysRow.domain false) (Rows.diskPlaysSpec.post enc Try.prog Try.f3 false true false false) := by
  refine returnsInHanded_of_change (C := Try.checked) own started (by kernel_rfl) Try.func3
    (ChangeSpec.witness6 (enc := enc) (C := Try.checked) false ⟨#[], #[.int .i64 0, .slice none 0 0], []⟩ 8 (by kernel_rfl) (by kernel_rfl) (by kernel_rfl) (by kernel_rfl)) ?_
  intro W base args ds gs before hval0 hW hcnd _
  have hval : ∀ (j : Nat) t v, Try.f3.params[j]? = some t → args[j]? = some v → Value.okWide Try.prog W .any base t v := hval0
  have hW' := hW
  obtain ⟨p, q, hA0, hV, rfl, hfz, hnd⟩ := hW
  have hA : DataW.TrodAll enc Try.prog W 0 (fun _ => true) true Try.f3.params.toList args.toList ds p := hA0
  rw [Try.params3] at hA hval
  obtain ⟨v0, vs0, d0, ds0, p0, q0, hargs, rfl, rfl, h0, r0⟩ := trodAll_cons hA
  obtain ⟨v1, vs1, d1, ds1, p1, q1, rfl, rfl, rfl, h1, r1⟩ := trodAll_cons r0
  obtain ⟨rfl, rfl, rfl⟩ := trodAll_nil r1
  obtain rfl : args = #[v0, v1] := by cases args; simp_all
  obtain ⟨rfl, rfl⟩ := trodVars_none hV
  obtain ⟨a0, rfl, rfl, rfl, w0⟩ := open_int Try.underlying3 (hval 0 3 v0 rfl rfl) h0
  have k1 := h1
  have lt1 : ∀ x ∈ p1, x.block < W.heap.size := by obtain ⟨m, hm⟩ := k1; exact DataW.trod_lt m _ _ _ hm
  obtain ⟨a1, len1, c1, rfl⟩ := okWide_slice Try.underlying22 (hval 1 22 v1 rfl rfl)
  obtain ⟨L1, eL1, hL1⟩ := open_ops h1
  subst eL1
  clear hA0 hval0
  refine (walk a0 a1 c1 L1 W w0 hL1).mono fun e W' ⟨he, bel⟩ => ?_
  subst he
  exact ⟨_, rfl, _, _, _, [], _, [], hW', trodAll_mk1 (shut_bool Try.underlying4 _), (trodAll_cons_mk (shut_int Try.underlying3 w0) (trodAll_cons_mk (Below.trod laidOut (by kernel_rfl) (of_decide_eq_true (by kernel_rfl)) k1 bel lt1) trodAll_mk0)), rfl, bel.frame _, fun h => by cases h⟩

theorem over : Rows.diskPlaysRow.holds Try.pinned (OpenSpec.ofChange Rows.diskPlaysSpec) :=
  OpenClaim.holds_of_wide 3 Try.f3 rfl rfl rfl rfl rfl rfl rfl ⟨rfl, rfl, rfl, rfl, rfl⟩ rfl rfl rfl rfl rfl (by kernel_rfl) Try.func3 (by kernel_rfl)
    (of_decide_eq_true (by kernel_rfl)) (by unfold Func.isWrapper; first | (rw [if_pos (by decide +kernel)]; kernel_rfl) | (rw [if_neg (by decide +kernel)]; exact ⟨rfl, rfl⟩))
    (fun os started H enc _ => lifted os started H enc)

theorem proved : Rows.DiskPlaysSaid := over
#print axioms proved
end Go.Proofs.Ytdchodjfgeglgaa.diskPlays
