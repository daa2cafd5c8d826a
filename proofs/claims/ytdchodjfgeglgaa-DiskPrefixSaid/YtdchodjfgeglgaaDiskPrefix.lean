/-
  'DiskPrefix' (tracebook): the Go text of this law returns true at every input of its types, and writes nothing that was there.
-/
import Derived.Test.YtdchodjfgeglgaaFew
import Derived.Test.YtdchodjfgeglgaaPrefM
import Derived.Deep.Cut
import Derived.Deep.CutRange
import Derived.Deep.RegionHeld3
namespace Go.Proofs.Ytdchodjfgeglgaa.diskPrefix
open Go.ChangeShapes Go.WideShapes Go.ChangeAt Go.RowKit
set_option linter.unusedVariables false

structure Sk (w : World) (g5 : Nat) (s : Int) (xs : List Int) (du le : Int) (dn : Bool) (A5 : Option Addr) (c5 : Nat) (V : World) : Prop where
  b5 : Bx V g5 (.int .i64 s) (.slice A5 xs.length c5) (.int .i64 du) (.int .i64 le) (.bool dn)
  s5 : Sl V A5 c5 xs
  p55 : Apart A5 xs g5
  lo : w.heap.size ≤ g5
  bel : Below w.heap.size w V
theorem Sk.keep {w V V' : World} {g5 : Nat} {s : Int} {xs : List Int} {du le : Int} {dn : Bool} {A5 : Option Addr} {c5 : Nat} (h : Sk w g5 s xs du le dn A5 c5 V) (hb : Below V.heap.size V V') : Sk w g5 s xs du le dn A5 c5 V' :=
  ⟨h.b5.keep hb, h.s5.keep hb, h.p55, h.lo, below_step h.bel hb⟩
def Inv (w : World) (g5 len : Nat) (t7 t8 i : Value) (V : World) : Prop :=
  ∃ (k : Nat) (s : Int) (xs : List Int) (du le : Int) (dn : Bool) (A5 : Option Addr) (c5 : Nat), k ≤ len ∧ i = .int .i64 k ∧ t7 = .string (strOfNums xs) ∧ t8 = .int .i64 du ∧ okD ⟨s, xs, du, le, dn⟩ = true ∧ Sk w g5 s xs du le dn A5 c5 V
theorem Inv.mk (w : World) (g5 len : Nat) (t7 t8 i : Value) (V : World) (k : Nat) (s : Int) (xs : List Int) (du le : Int) (dn : Bool) (A5 : Option Addr) (c5 : Nat) (h1 : k ≤ len) (h2 : i = .int .i64 k) (h5 : t7 = .string (strOfNums xs)) (h6 : t8 = .int .i64 du) (h3 : okD ⟨s, xs, du, le, dn⟩ = true) (h4 : Sk w g5 s xs du le dn A5 c5 V) : Inv w g5 len t7 t8 i V :=
  ⟨k, s, xs, du, le, dn, A5, c5, h1, h2, h5, h6, h3, h4⟩

set_option maxRecDepth 100000 in
set_option maxHeartbeats 40000000 in
theorem walk_main (a : Option Addr) (cap : Nat) (L : List OpD) (keep : Int) (w : World) (hL : OpsIn w a cap L) (hfew : fewB L = true) :
    Calls Try.prog 5 #[.slice a L.length cap, .int .i64 keep] w fun e w' => e = .returned (.bool true) ∧ Below w.heap.size w w' := by
  have hle := hL.le
  have hmx := hL.max
  have hlen := (fewB_true hfew).1
  have HF := Lib.hid (fewB_true hfew).2
  have F := Lib.hid (fun (W : World) (h : OpsIn W a cap L) => few_any a cap L W h)
  rw [hfew] at F
  have N1 := Lib.hid (fun W : World => new_gives 500 W none [])
  rw [new500.1] at N1
  clear hfew
  go_enter Try.func5, Try.ntmps5
  go_wp2_with fail
  refine (awake_any _).mono ?_
  rintro e W ⟨rfl, hB⟩
  go_wp2_with fail
  refine (F.out _ (hL.keep hB)).mono ?_
  rintro e W' ⟨rfl, rfl⟩
  go_wp2_with fail
  refine (N1.out _).mono ?_
  rintro e W2 ⟨A5, c5, rfl, hS5, -, hb⟩
  dsimp only [dval, List.length_nil] at hS5 ⊢
  replace hB := below_step hB hb
  clear hb
  go_upto_region 4 with fail
  have b5 := Bx.new W2 (.int .i64 500) (.slice A5 0 c5) (.int .i64 0) (.int .i64 (-1)) (.bool false)
  have hlo : w.heap.size ≤ W2.heap.size := hB.size
  replace hB := hB.alloc hB.size (.cells #[.int .i64 500, .slice A5 0 c5, .int .i64 0, .int .i64 (-1), .bool false] 27)
  replace hS5 := hS5.alloc (.cells #[.int .i64 500, .slice A5 0 c5, .int .i64 0, .int .i64 (-1), .bool false] 27)
  generalize W2.alloc (.cells #[.int .i64 500, .slice A5 0 c5, .int .i64 0, .int .i64 (-1), .bool false] 27) = V at b5 hB hS5 ⊢
  generalize W2.heap.size = g5 at b5 hlo ⊢
  have hst : Sk w g5 500 [] 0 (-1) false A5 c5 V := ⟨b5, hS5, fun h => absurd rfl h, hlo, hB⟩
  clear b5 hS5 hlo hB
  go_wp2_with fail
  go_loopw [7, 8, 9] (fun t7 t8 i V => Inv w g5 L.length t7 t8 i V) (fun _ _ i _ => L.length - (intOf i).toNat)
  case atStart => exact Inv.mk w g5 L.length _ _ _ _ 0 500 [] 0 (-1) false A5 c5 (Nat.zero_le _) rfl rfl rfl new500.2 hst
  case round =>
    clear hst
    obtain ⟨k, s, xs, du, le, dn, A5, c5, hk, rfl, rfl, rfl, hd, hst⟩ := hrel
    have hsx := str_size xs
    have HD := Lib.hid hd
    obtain ⟨g1, g2, g3, g4, g6, g7, g8⟩ := (okD_iff _).1 hd
    simp only at g1 g2 g3 g4 g6 g7 g8
    generalize hSX : strOfNums xs = SX at hsx ⊢
    have HX := Lib.hid hSX
    clear hSX
    by_cases hlt : k < L.length
    · have hgo := List.getElem?_eq_getElem hlt
      generalize L[k] = o at hgo
      obtain ⟨b, off, rfl, hat0⟩ := hL.at_ k o hgo
      have hops_at : ∀ V : World, Below w.heap.size w V → OpAt V b (off + k * 3) o := fun V hB => hat0.keep hB
      have ho := HF.out k o hgo
      have HO0 := Lib.hid hops_at
      clear hat0 hgo hops_at
      obtain ⟨kd, m, B, cb, ys⟩ := o
      simp only at ho
      have G1 := Lib.hid (fun (W : World) (h : Sl W A5 c5 xs) (h2 : Sl W B cb ys) => act_gives ⟨s, xs, du, le, dn⟩ A5 c5 kd m B cb ys W h h2)
      have hl5 := hst.b5.lt
      have hopw := HO0.out _ hst.bel
      have p0 := hopw.c0
      have p1 := hopw.c1
      have p2 := hopw.c2
      clear hopw
      by_cases hkd : kd < 3
      · cases hdn : dn
        · rcases cls_app hd hdn (.inl hkd) m ys with ⟨le2, hr⟩ | ⟨kk, hr⟩ | hr
          · as_aux_lemma =>
              subst hdn
              have hfin := actF_fine hd kd m ys
              rw [hr] at G1 hfin
              generalize hxs2 : xs ++ ys = xs2 at G1 hfin
              have HXS := Lib.hid hxs2
              clear hxs2
              have HO := Lib.hid (show okD ⟨s, xs2, du, le2, false⟩ = true by rcases hfin with ⟨_, k1, _⟩ | ⟨_, k1, _⟩ | k1 | k1 <;> first | exact k1 | (simp at k1))
              clear hd hfin
              go_upto_region 9 with fail
              have b10 := Ob.new wr (.int .i64 kd) (.int .i64 m) (.slice B ys.length cb)
              have hop := HO0.out _ hst.bel
              replace hst := hst.keep (one_ (.cells #[.int .i64 kd, .int .i64 m, .slice B ys.length cb] 34))
              have hsl := hop.sl.alloc (.cells #[.int .i64 kd, .int .i64 m, .slice B ys.length cb] 34)
              have hl10 : g5 < wr.heap.size := hl5
              clear p0 p1 p2 hop
              generalize wr.alloc (.cells #[.int .i64 kd, .int .i64 m, .slice B ys.length cb] 34) = V1 at b10 hst hsl ⊢
              generalize wr.heap.size = g10 at b10 hl10 ⊢
              have q := hst.b5
              obtain ⟨-, k0, k1, k2, k3, k4, kf⟩ := q
              have q := b10
              obtain ⟨-, j0, j1, j2⟩ := q
              go_wp2_with fail
              refine (G1.out _ hst.s5 hsl).mono ?_
              rintro e W ⟨A11, c11, rfl, hS11, hs11, hb⟩
              dsimp only [dval] at hS11 hs11 ⊢
              have pa5 := hs11 g5 hst.b5.lt hst.p55
              clear k0 k1 k2 k3 k4 kf j0 j1 j2 hs11 G1
              replace hst := hst.keep hb
              replace b10 := b10.keep hb
              replace hsl := hsl.keep hb
              clear hb
              go_upto_region 10 with fail
              have b11 := Bx.new W (.int .i64 s) (.slice A11 xs2.length c11) (.int .i64 du) (.int .i64 le2) (.bool false)
              have hl11 : g10 < W.heap.size := b10.lt
              replace hst := hst.keep (one_ (.cells #[.int .i64 s, .slice A11 xs2.length c11, .int .i64 du, .int .i64 le2, .bool false] 27))
              replace b10 := b10.alloc (.cells #[.int .i64 s, .slice A11 xs2.length c11, .int .i64 du, .int .i64 le2, .bool false] 27)
              replace hsl := hsl.alloc (.cells #[.int .i64 s, .slice A11 xs2.length c11, .int .i64 du, .int .i64 le2, .bool false] 27)
              replace hS11 := hS11.alloc (.cells #[.int .i64 s, .slice A11 xs2.length c11, .int .i64 du, .int .i64 le2, .bool false] 27)
              generalize W.alloc (.cells #[.int .i64 s, .slice A11 xs2.length c11, .int .i64 du, .int .i64 le2, .bool false] 27) = V2 at b10 b11 hst hsl hS11 ⊢
              generalize W.heap.size = g11 at b11 hl11 ⊢
              have q := hst.b5
              obtain ⟨-, k0, k1, k2, k3, k4, kf⟩ := q
              have q := b10
              obtain ⟨-, j0, j1, j2⟩ := q
              have q := b11
              obtain ⟨-, i0, i1, i2, i3, i4, if_⟩ := q
              have f1 : (kd < 3) := hkd
              have f3 : (kd == 3) = false := by simp; omega
              have f4 : (kd == 4) = false := by simp; omega
              have f5 : (kd == 5) = false := by simp; omega
              have f7 : (kd == 7) = false := by simp; omega
              have hsy := str_size ys
              have cvo := conv_row hsl.row _ cb rfl
              have hcat0 : SX ++ strOfNums ys = strOfNums (xs ++ ys) := by rw [← HX.out]; exact str_append xs ys
              generalize strOfNums ys = SY at hsy cvo hcat0
              have hxl : xs.length ≤ 8388608 := by omega
              have hyl : ys.length ≤ 8388608 := by omega
              have hsz := str_size xs2
              have hext0 : (strOfNums xs2).extract 0 xs2.length = strOfNums xs2 := by rw [str_take, List.take_length]
              rw [HXS.out] at hcat0
              generalize hS2 : strOfNums xs2 = S2 at hsz hcat0 hext0
              have HX2 := Lib.hid hS2
              clear hS2
              have hl1 : xs2.length = xs.length + ys.length := by rw [← HXS.out, List.length_append]
              have hl2 : xs.length + ys.length ≤ xs2.length := by omega
              have hl3 : du ≤ xs2.length := by omega
              clear hl1
              go_upto_region 21 with fail
              clear k0 k1 k2 k3 k4 kf j0 j1 j2 i0 i1 i2 i3 i4 if_
              obtain ⟨b5, -, -, hlo, hB⟩ := hst
              replace b5 := b5.store (.int .i64 s) (.slice A11 xs2.length c11) (.int .i64 du) (.int .i64 le2) (.bool false)
              replace hS11 := (Sl.setCell (Sl.setCell (Sl.setCell (Sl.setCell (Sl.setCell hS11 ⟨g5, 0, none⟩ (.int .i64 s) pa5) ⟨g5, 1, none⟩ (.slice A11 xs2.length c11) pa5) ⟨g5, 2, none⟩ (.int .i64 du) pa5) ⟨g5, 3, none⟩ (.int .i64 le2) pa5) ⟨g5, 4, none⟩ (.bool false) pa5)
              replace b10 := (Ob.far (Ob.far (Ob.far (Ob.far (Ob.far b10 ⟨g5, 0, none⟩ (.int .i64 s) (by show g10 ≠ g5; omega)) ⟨g5, 1, none⟩ (.slice A11 xs2.length c11) (by show g10 ≠ g5; omega)) ⟨g5, 2, none⟩ (.int .i64 du) (by show g10 ≠ g5; omega)) ⟨g5, 3, none⟩ (.int .i64 le2) (by show g10 ≠ g5; omega)) ⟨g5, 4, none⟩ (.bool false) (by show g10 ≠ g5; omega))
              replace hB : Below w.heap.size w (((((V2.setCell ⟨g5, 0, none⟩ (.int .i64 s)).setCell ⟨g5, 1, none⟩ (.slice A11 xs2.length c11)).setCell ⟨g5, 2, none⟩ (.int .i64 du)).setCell ⟨g5, 3, none⟩ (.int .i64 le2)).setCell ⟨g5, 4, none⟩ (.bool false)) := by (repeat' (first | (with_reducible exact hB) | (with_reducible exact Below.refl _ _) | (with_reducible refine Below.setCell ?_ ?_ _) | (with_reducible refine Below.alloc ?_ ?_ _) | (with_reducible refine Below.drew ?_) | (simp; done) | omega | (simp; omega)))
              clear hsl b11
              generalize (((((V2.setCell ⟨g5, 0, none⟩ (.int .i64 s)).setCell ⟨g5, 1, none⟩ (.slice A11 xs2.length c11)).setCell ⟨g5, 2, none⟩ (.int .i64 du)).setCell ⟨g5, 3, none⟩ (.int .i64 le2)).setCell ⟨g5, 4, none⟩ (.bool false)) = V3 at b5 b10 hS11 hB ⊢
              have MK := Lib.hid (fun (X : World) (h : Below V3.heap.size V3 X) => (⟨⟨(b5.keep h).c1, (conv_row (hS11.keep h).row _ c11 rfl).trans (by rw [HX2.out])⟩, h⟩ : (X.cell? ⟨g5, 1, none⟩ = some (.slice A11 xs2.length c11) ∧ (convert 25 9 (.slice A11 xs2.length c11)).run Try.prog X = .ok (.string S2) X) ∧ Below V3.heap.size V3 X))
              have hS := MK.out _ (Below.refl _ _).drew
              go_cut [129] from 26 to 145 (fun p wx => p = .bool false ∧ Below V3.heap.size V3 wx)
              case first =>
                go_region_held3 (fun X => (X.cell? ⟨g5, 1, none⟩ = some (.slice A11 xs2.length c11) ∧ (convert 25 9 (.slice A11 xs2.length c11)).run Try.prog X = .ok (.string S2) X) ∧ Below V3.heap.size V3 X)
                  (first
                    | with_reducible exact hS
                    | (refine MK.out _ ?_; (repeat' (first | (with_reducible exact hB0) | (with_reducible exact Below.refl _ _) | (with_reducible refine Below.setCell ?_ ?_ _) | (with_reducible refine Below.alloc ?_ ?_ _) | (with_reducible refine Below.drew ?_) | (simp; done) | omega | (simp; omega)))))
                  (first | fail)
                all_goals
                  go_wp2_with fail
                  go_meet
                  first
                    | exact ⟨rfl, by (repeat' (first | (with_reducible exact hB0) | (with_reducible exact Below.refl _ _) | (with_reducible refine Below.setCell ?_ ?_ _) | (with_reducible refine Below.alloc ?_ ?_ _) | (with_reducible refine Below.drew ?_) | (simp; done) | omega | (simp; omega)))⟩
                    | exact ⟨congrArg Value.bool (decide_eq_false (by omega)), by (repeat' (first | (with_reducible exact hB0) | (with_reducible exact Below.refl _ _) | (with_reducible refine Below.setCell ?_ ?_ _) | (with_reducible refine Below.alloc ?_ ?_ _) | (with_reducible refine Below.drew ?_) | (simp; done) | omega | (simp; omega)))⟩
              case rest =>
                obtain ⟨rfl, hb⟩ := hcut
                clear hS
                have cv := (MK.out _ hb).1.2
                clear MK
                replace b5 := b5.keep hb
                replace b10 := b10.keep hb
                replace hS11 := hS11.keep hb
                replace hB := below_step hB hb
                clear hb
                have q := b5
                obtain ⟨-, k0, k1, k2, k3, k4, kf⟩ := q
                have q := b10
                obtain ⟨-, j0, j1, j2⟩ := q
                go_wp2
                go_roundw
                case rel => exact Inv.mk w g5 L.length _ _ _ _ (k + 1) (s) (xs2) (du) (le2) false A11 c11 (by omega) (by go_num) (by rw [HX2.out]) rfl HO.out ⟨b5, hS11, pa5, hlo, hB⟩
                case measure => simp [intOf]; omega
          · as_aux_lemma =>
              subst hdn
              have hfin := actF_fine hd kd m ys
              rw [hr] at G1 hfin
              generalize hxs2 : xs ++ ys.take kk = xs2 at G1 hfin
              have HXS := Lib.hid hxs2
              clear hxs2
              have HO := Lib.hid (show okD ⟨s, xs2, du, 0, true⟩ = true by rcases hfin with ⟨_, k1, _⟩ | ⟨_, k1, _⟩ | k1 | k1 <;> first | exact k1 | (simp at k1))
              clear hd hfin
              go_upto_region 9 with fail
              have b10 := Ob.new wr (.int .i64 kd) (.int .i64 m) (.slice B ys.length cb)
              have hop := HO0.out _ hst.bel
              replace hst := hst.keep (one_ (.cells #[.int .i64 kd, .int .i64 m, .slice B ys.length cb] 34))
              have hsl := hop.sl.alloc (.cells #[.int .i64 kd, .int .i64 m, .slice B ys.length cb] 34)
              have hl10 : g5 < wr.heap.size := hl5
              clear p0 p1 p2 hop
              generalize wr.alloc (.cells #[.int .i64 kd, .int .i64 m, .slice B ys.length cb] 34) = V1 at b10 hst hsl ⊢
              generalize wr.heap.size = g10 at b10 hl10 ⊢
              have q := hst.b5
              obtain ⟨-, k0, k1, k2, k3, k4, kf⟩ := q
              have q := b10
              obtain ⟨-, j0, j1, j2⟩ := q
              go_wp2_with fail
              refine (G1.out _ hst.s5 hsl).mono ?_
              rintro e W ⟨A11, c11, rfl, hS11, hs11, hb⟩
              dsimp only [dval] at hS11 hs11 ⊢
              have pa5 := hs11 g5 hst.b5.lt hst.p55
              clear k0 k1 k2 k3 k4 kf j0 j1 j2 hs11 G1
              replace hst := hst.keep hb
              replace b10 := b10.keep hb
              replace hsl := hsl.keep hb
              clear hb
              go_upto_region 10 with fail
              have b11 := Bx.new W (.int .i64 s) (.slice A11 xs2.length c11) (.int .i64 du) (.int .i64 0) (.bool true)
              have hl11 : g10 < W.heap.size := b10.lt
              replace hst := hst.keep (one_ (.cells #[.int .i64 s, .slice A11 xs2.length c11, .int .i64 du, .int .i64 0, .bool true] 27))
              replace b10 := b10.alloc (.cells #[.int .i64 s, .slice A11 xs2.length c11, .int .i64 du, .int .i64 0, .bool true] 27)
              replace hsl := hsl.alloc (.cells #[.int .i64 s, .slice A11 xs2.length c11, .int .i64 du, .int .i64 0, .bool true] 27)
              replace hS11 := hS11.alloc (.cells #[.int .i64 s, .slice A11 xs2.length c11, .int .i64 du, .int .i64 0, .bool true] 27)
              generalize W.alloc (.cells #[.int .i64 s, .slice A11 xs2.length c11, .int .i64 du, .int .i64 0, .bool true] 27) = V2 at b10 b11 hst hsl hS11 ⊢
              generalize W.heap.size = g11 at b11 hl11 ⊢
              have q := hst.b5
              obtain ⟨-, k0, k1, k2, k3, k4, kf⟩ := q
              have q := b10
              obtain ⟨-, j0, j1, j2⟩ := q
              have q := b11
              obtain ⟨-, i0, i1, i2, i3, i4, if_⟩ := q
              have f1 : (kd < 3) := hkd
              have f3 : (kd == 3) = false := by simp; omega
              have f4 : (kd == 4) = false := by simp; omega
              have f5 : (kd == 5) = false := by simp; omega
              have f7 : (kd == 7) = false := by simp; omega
              have hsy := str_size ys
              have cvo := conv_row hsl.row _ cb rfl
              have hcat0 : SX ++ strOfNums ys = strOfNums (xs ++ ys) := by rw [← HX.out]; exact str_append xs ys
              generalize strOfNums ys = SY at hsy cvo hcat0
              have hxl : xs.length ≤ 8388608 := by omega
              have hyl : ys.length ≤ 8388608 := by omega
              have hsz := str_size (xs ++ ys)
              have hext0 : (strOfNums (xs ++ ys)).extract 0 xs2.length = strOfNums xs2 := by rw [str_take, ← HXS.out]; congr 1; rw [List.length_append, List.take_length_add_append, take_len_take]
              generalize hS2 : strOfNums xs2 = S2 at hext0
              have HX2 := Lib.hid hS2
              clear hS2
              generalize strOfNums (xs ++ ys) = SW at hsz hcat0 hext0
              rw [List.length_append] at hsz
              have hl1 : xs2.length ≤ xs.length + (ys.take kk).length := by rw [← HXS.out, List.length_append]; omega
              have hl6 : xs.length ≤ xs2.length := by rw [← HXS.out, List.length_append]; omega
              have htl : (ys.take kk).length ≤ ys.length := by rw [List.length_take]; omega
              have hnw : ∃ nw, nw = xs.length + ys.length := ⟨_, rfl⟩
              obtain ⟨nw, hnw⟩ := hnw
              rw [← hnw] at hsz
              have hl2 : xs2.length ≤ nw := by omega
              have hl4 : decide (nw < xs2.length) = false := by simp; omega
              clear hnw
              have hl3 : du ≤ xs2.length := by omega
              clear htl
              go_upto_region 21 with fail
              clear k0 k1 k2 k3 k4 kf j0 j1 j2 i0 i1 i2 i3 i4 if_
              obtain ⟨b5, -, -, hlo, hB⟩ := hst
              replace b5 := b5.store (.int .i64 s) (.slice A11 xs2.length c11) (.int .i64 du) (.int .i64 0) (.bool true)
              replace hS11 := (Sl.setCell (Sl.setCell (Sl.setCell (Sl.setCell (Sl.setCell hS11 ⟨g5, 0, none⟩ (.int .i64 s) pa5) ⟨g5, 1, none⟩ (.slice A11 xs2.length c11) pa5) ⟨g5, 2, none⟩ (.int .i64 du) pa5) ⟨g5, 3, none⟩ (.int .i64 0) pa5) ⟨g5, 4, none⟩ (.bool true) pa5)
              replace b10 := (Ob.far (Ob.far (Ob.far (Ob.far (Ob.far b10 ⟨g5, 0, none⟩ (.int .i64 s) (by show g10 ≠ g5; omega)) ⟨g5, 1, none⟩ (.slice A11 xs2.length c11) (by show g10 ≠ g5; omega)) ⟨g5, 2, none⟩ (.int .i64 du) (by show g10 ≠ g5; omega)) ⟨g5, 3, none⟩ (.int .i64 0) (by show g10 ≠ g5; omega)) ⟨g5, 4, none⟩ (.bool true) (by show g10 ≠ g5; omega))
              replace hB : Below w.heap.size w (((((V2.setCell ⟨g5, 0, none⟩ (.int .i64 s)).setCell ⟨g5, 1, none⟩ (.slice A11 xs2.length c11)).setCell ⟨g5, 2, none⟩ (.int .i64 du)).setCell ⟨g5, 3, none⟩ (.int .i64 0)).setCell ⟨g5, 4, none⟩ (.bool true)) := by (repeat' (first | (with_reducible exact hB) | (with_reducible exact Below.refl _ _) | (with_reducible refine Below.setCell ?_ ?_ _) | (with_reducible refine Below.alloc ?_ ?_ _) | (with_reducible refine Below.drew ?_) | (simp; done) | omega | (simp; omega)))
              clear hsl b11
              generalize (((((V2.setCell ⟨g5, 0, none⟩ (.int .i64 s)).setCell ⟨g5, 1, none⟩ (.slice A11 xs2.length c11)).setCell ⟨g5, 2, none⟩ (.int .i64 du)).setCell ⟨g5, 3, none⟩ (.int .i64 0)).setCell ⟨g5, 4, none⟩ (.bool true)) = V3 at b5 b10 hS11 hB ⊢
              have MK := Lib.hid (fun (X : World) (h : Below V3.heap.size V3 X) => (⟨⟨(b5.keep h).c1, (conv_row (hS11.keep h).row _ c11 rfl).trans (by rw [HX2.out])⟩, h⟩ : (X.cell? ⟨g5, 1, none⟩ = some (.slice A11 xs2.length c11) ∧ (convert 25 9 (.slice A11 xs2.length c11)).run Try.prog X = .ok (.string S2) X) ∧ Below V3.heap.size V3 X))
              have hS := MK.out _ (Below.refl _ _).drew
              go_cut [129] from 26 to 145 (fun p wx => p = .bool false ∧ Below V3.heap.size V3 wx)
              case first =>
                go_region_held3 (fun X => (X.cell? ⟨g5, 1, none⟩ = some (.slice A11 xs2.length c11) ∧ (convert 25 9 (.slice A11 xs2.length c11)).run Try.prog X = .ok (.string S2) X) ∧ Below V3.heap.size V3 X)
                  (first
                    | with_reducible exact hS
                    | (refine MK.out _ ?_; (repeat' (first | (with_reducible exact hB0) | (with_reducible exact Below.refl _ _) | (with_reducible refine Below.setCell ?_ ?_ _) | (with_reducible refine Below.alloc ?_ ?_ _) | (with_reducible refine Below.drew ?_) | (simp; done) | omega | (simp; omega)))))
                  (first | fail)
                all_goals
                  go_wp2_with fail
                  go_meet
                  first
                    | exact ⟨rfl, by (repeat' (first | (with_reducible exact hB0) | (with_reducible exact Below.refl _ _) | (with_reducible refine Below.setCell ?_ ?_ _) | (with_reducible refine Below.alloc ?_ ?_ _) | (with_reducible refine Below.drew ?_) | (simp; done) | omega | (simp; omega)))⟩
                    | exact ⟨congrArg Value.bool (decide_eq_false (by omega)), by (repeat' (first | (with_reducible exact hB0) | (with_reducible exact Below.refl _ _) | (with_reducible refine Below.setCell ?_ ?_ _) | (with_reducible refine Below.alloc ?_ ?_ _) | (with_reducible refine Below.drew ?_) | (simp; done) | omega | (simp; omega)))⟩
              case rest =>
                obtain ⟨rfl, hb⟩ := hcut
                clear hS
                have cv := (MK.out _ hb).1.2
                clear MK
                replace b5 := b5.keep hb
                replace b10 := b10.keep hb
                replace hS11 := hS11.keep hb
                replace hB := below_step hB hb
                clear hb
                have q := b5
                obtain ⟨-, k0, k1, k2, k3, k4, kf⟩ := q
                have q := b10
                obtain ⟨-, j0, j1, j2⟩ := q
                go_wp2
                go_roundw
                case rel => exact Inv.mk w g5 L.length _ _ _ _ (k + 1) (s) (xs2) (du) (0) true A11 c11 (by omega) (by go_num) (by rw [HX2.out]) rfl HO.out ⟨b5, hS11, pa5, hlo, hB⟩
                case measure => simp [intOf]; omega
          · as_aux_lemma =>
              subst hdn
              rw [hr] at G1
              clear hd
              go_upto_region 9 with fail
              have b10 := Ob.new wr (.int .i64 kd) (.int .i64 m) (.slice B ys.length cb)
              have hop := HO0.out _ hst.bel
              replace hst := hst.keep (one_ (.cells #[.int .i64 kd, .int .i64 m, .slice B ys.length cb] 34))
              have hsl := hop.sl.alloc (.cells #[.int .i64 kd, .int .i64 m, .slice B ys.length cb] 34)
              have hl10 : g5 < wr.heap.size := hl5
              clear p0 p1 p2 hop
              generalize wr.alloc (.cells #[.int .i64 kd, .int .i64 m, .slice B ys.length cb] 34) = V1 at b10 hst hsl ⊢
              generalize wr.heap.size = g10 at b10 hl10 ⊢
              have q := hst.b5
              obtain ⟨-, k0, k1, k2, k3, k4, kf⟩ := q
              have q := b10
              obtain ⟨-, j0, j1, j2⟩ := q
              go_wp2_with fail
              refine (G1.out _ hst.s5 hsl).mono ?_
              rintro e W ⟨A11, c11, rfl, hS11, hs11, hb⟩
              dsimp only [dval, dz, List.length_nil] at hS11 hs11 ⊢
              have pa5 := hs11 g5 hst.b5.lt hst.p55
              clear k0 k1 k2 k3 k4 kf j0 j1 j2 hs11 G1
              replace hst := hst.keep hb
              replace b10 := b10.keep hb
              replace hsl := hsl.keep hb
              clear hb
              go_upto_region 10 with fail
              have b11 := Bx.new W (.int .i64 0) (.slice A11 0 c11) (.int .i64 0) (.int .i64 0) (.bool false)
              have hl11 : g10 < W.heap.size := b10.lt
              replace hst := hst.keep (one_ (.cells #[.int .i64 0, .slice A11 0 c11, .int .i64 0, .int .i64 0, .bool false] 27))
              replace b10 := b10.alloc (.cells #[.int .i64 0, .slice A11 0 c11, .int .i64 0, .int .i64 0, .bool false] 27)
              replace hsl := hsl.alloc (.cells #[.int .i64 0, .slice A11 0 c11, .int .i64 0, .int .i64 0, .bool false] 27)
              replace hS11 := hS11.alloc (.cells #[.int .i64 0, .slice A11 0 c11, .int .i64 0, .int .i64 0, .bool false] 27)
              generalize W.alloc (.cells #[.int .i64 0, .slice A11 0 c11, .int .i64 0, .int .i64 0, .bool false] 27) = V2 at b10 b11 hst hsl hS11 ⊢
              generalize W.heap.size = g11 at b11 hl11 ⊢
              go_wp2
              go_roundw
              case rel => exact Inv.mk w g5 L.length _ _ _ _ (k + 1) s xs du le _ A5 c5 (by omega) (by go_num) (by rw [HX.out]) rfl HD.out hst
              case measure => simp [intOf]; omega
        · as_aux_lemma =>
            subst hdn
            rw [cls_err hd rfl (by omega) m ys] at G1
            have HO := Lib.hid hd
            clear hd
            go_upto_region 9 with fail
            have b10 := Ob.new wr (.int .i64 kd) (.int .i64 m) (.slice B ys.length cb)
            have hop := HO0.out _ hst.bel
            replace hst := hst.keep (one_ (.cells #[.int .i64 kd, .int .i64 m, .slice B ys.length cb] 34))
            have hsl := hop.sl.alloc (.cells #[.int .i64 kd, .int .i64 m, .slice B ys.length cb] 34)
            have hl10 : g5 < wr.heap.size := hl5
            clear p0 p1 p2 hop
            generalize wr.alloc (.cells #[.int .i64 kd, .int .i64 m, .slice B ys.length cb] 34) = V1 at b10 hst hsl ⊢
            generalize wr.heap.size = g10 at b10 hl10 ⊢
            have q := hst.b5
            obtain ⟨-, k0, k1, k2, k3, k4, kf⟩ := q
            have q := b10
            obtain ⟨-, j0, j1, j2⟩ := q
            go_wp2_with fail
            refine (G1.out _ hst.s5 hsl).mono ?_
            rintro e W ⟨A11, c11, rfl, hS11, hs11, hb⟩
            dsimp only [dval] at hS11 hs11 ⊢
            have pa5 := hs11 g5 hst.b5.lt hst.p55
            clear k0 k1 k2 k3 k4 kf j0 j1 j2 hs11 G1
            replace hst := hst.keep hb
            replace b10 := b10.keep hb
            replace hsl := hsl.keep hb
            clear hb
            go_upto_region 10 with fail
            have b11 := Bx.new W (.int .i64 s) (.slice A11 xs.length c11) (.int .i64 du) (.int .i64 le) (.bool true)
            have hl11 : g10 < W.heap.size := b10.lt
            replace hst := hst.keep (one_ (.cells #[.int .i64 s, .slice A11 xs.length c11, .int .i64 du, .int .i64 le, .bool true] 27))
            replace b10 := b10.alloc (.cells #[.int .i64 s, .slice A11 xs.length c11, .int .i64 du, .int .i64 le, .bool true] 27)
            replace hsl := hsl.alloc (.cells #[.int .i64 s, .slice A11 xs.length c11, .int .i64 du, .int .i64 le, .bool true] 27)
            replace hS11 := hS11.alloc (.cells #[.int .i64 s, .slice A11 xs.length c11, .int .i64 du, .int .i64 le, .bool true] 27)
            generalize W.alloc (.cells #[.int .i64 s, .slice A11 xs.length c11, .int .i64 du, .int .i64 le, .bool true] 27) = V2 at b10 b11 hst hsl hS11 ⊢
            generalize W.heap.size = g11 at b11 hl11 ⊢
            have q := hst.b5
            obtain ⟨-, k0, k1, k2, k3, k4, kf⟩ := q
            have q := b10
            obtain ⟨-, j0, j1, j2⟩ := q
            have q := b11
            obtain ⟨-, i0, i1, i2, i3, i4, if_⟩ := q
            have f1 : (kd < 3) := hkd
            have f3 : (kd == 3) = false := by simp; omega
            have f4 : (kd == 4) = false := by simp; omega
            have f5 : (kd == 5) = false := by simp; omega
            have f7 : (kd == 7) = false := by simp; omega
            have hext : SX.extract 0 xs.length = SX := by rw [← HX.out, str_take, List.take_length]
            go_upto_region 21 with fail
            clear k0 k1 k2 k3 k4 kf j0 j1 j2 i0 i1 i2 i3 i4 if_
            obtain ⟨b5, -, -, hlo, hB⟩ := hst
            replace b5 := b5.store (.int .i64 s) (.slice A11 xs.length c11) (.int .i64 du) (.int .i64 le) (.bool true)
            replace hS11 := (Sl.setCell (Sl.setCell (Sl.setCell (Sl.setCell (Sl.setCell hS11 ⟨g5, 0, none⟩ (.int .i64 s) pa5) ⟨g5, 1, none⟩ (.slice A11 xs.length c11) pa5) ⟨g5, 2, none⟩ (.int .i64 du) pa5) ⟨g5, 3, none⟩ (.int .i64 le) pa5) ⟨g5, 4, none⟩ (.bool true) pa5)
            replace b10 := (Ob.far (Ob.far (Ob.far (Ob.far (Ob.far b10 ⟨g5, 0, none⟩ (.int .i64 s) (by show g10 ≠ g5; omega)) ⟨g5, 1, none⟩ (.slice A11 xs.length c11) (by show g10 ≠ g5; omega)) ⟨g5, 2, none⟩ (.int .i64 du) (by show g10 ≠ g5; omega)) ⟨g5, 3, none⟩ (.int .i64 le) (by show g10 ≠ g5; omega)) ⟨g5, 4, none⟩ (.bool true) (by show g10 ≠ g5; omega))
            replace hB : Below w.heap.size w (((((V2.setCell ⟨g5, 0, none⟩ (.int .i64 s)).setCell ⟨g5, 1, none⟩ (.slice A11 xs.length c11)).setCell ⟨g5, 2, none⟩ (.int .i64 du)).setCell ⟨g5, 3, none⟩ (.int .i64 le)).setCell ⟨g5, 4, none⟩ (.bool true)) := by (repeat' (first | (with_reducible exact hB) | (with_reducible exact Below.refl _ _) | (with_reducible refine Below.setCell ?_ ?_ _) | (with_reducible refine Below.alloc ?_ ?_ _) | (with_reducible refine Below.drew ?_) | (simp; done) | omega | (simp; omega)))
            clear hsl b11
            generalize (((((V2.setCell ⟨g5, 0, none⟩ (.int .i64 s)).setCell ⟨g5, 1, none⟩ (.slice A11 xs.length c11)).setCell ⟨g5, 2, none⟩ (.int .i64 du)).setCell ⟨g5, 3, none⟩ (.int .i64 le)).setCell ⟨g5, 4, none⟩ (.bool true)) = V3 at b5 b10 hS11 hB ⊢
            have MK := Lib.hid (fun (X : World) (h : Below V3.heap.size V3 X) => (⟨⟨(b5.keep h).c1, (conv_row (hS11.keep h).row _ c11 rfl).trans (by rw [HX.out])⟩, h⟩ : (X.cell? ⟨g5, 1, none⟩ = some (.slice A11 xs.length c11) ∧ (convert 25 9 (.slice A11 xs.length c11)).run Try.prog X = .ok (.string SX) X) ∧ Below V3.heap.size V3 X))
            have hS := MK.out _ (Below.refl _ _).drew
            go_cut [129] from 26 to 145 (fun p wx => p = .bool false ∧ Below V3.heap.size V3 wx)
            case first =>
              go_region_held3 (fun X => (X.cell? ⟨g5, 1, none⟩ = some (.slice A11 xs.length c11) ∧ (convert 25 9 (.slice A11 xs.length c11)).run Try.prog X = .ok (.string SX) X) ∧ Below V3.heap.size V3 X)
                (first
                  | with_reducible exact hS
                  | (refine MK.out _ ?_; (repeat' (first | (with_reducible exact hB0) | (with_reducible exact Below.refl _ _) | (with_reducible refine Below.setCell ?_ ?_ _) | (with_reducible refine Below.alloc ?_ ?_ _) | (with_reducible refine Below.drew ?_) | (simp; done) | omega | (simp; omega)))))
                (first | fail)
              all_goals
                go_wp2_with fail
                go_meet
                first
                  | exact ⟨rfl, by (repeat' (first | (with_reducible exact hB0) | (with_reducible exact Below.refl _ _) | (with_reducible refine Below.setCell ?_ ?_ _) | (with_reducible refine Below.alloc ?_ ?_ _) | (with_reducible refine Below.drew ?_) | (simp; done) | omega | (simp; omega)))⟩
                  | exact ⟨congrArg Value.bool (decide_eq_false (by omega)), by (repeat' (first | (with_reducible exact hB0) | (with_reducible exact Below.refl _ _) | (with_reducible refine Below.setCell ?_ ?_ _) | (with_reducible refine Below.alloc ?_ ?_ _) | (with_reducible refine Below.drew ?_) | (simp; done) | omega | (simp; omega)))⟩
            case rest =>
              obtain ⟨rfl, hb⟩ := hcut
              clear hS
              have cv := (MK.out _ hb).1.2
              clear MK
              replace b5 := b5.keep hb
              replace b10 := b10.keep hb
              replace hS11 := hS11.keep hb
              replace hB := below_step hB hb
              clear hb
              have q := b5
              obtain ⟨-, k0, k1, k2, k3, k4, kf⟩ := q
              have q := b10
              obtain ⟨-, j0, j1, j2⟩ := q
              go_wp2
              go_roundw
              case rel => exact Inv.mk w g5 L.length _ _ _ _ (k + 1) (s) (xs) (du) (le) true A11 c11 (by omega) (by go_num) (by rw [HX.out]) rfl HO.out ⟨b5, hS11, pa5, hlo, hB⟩
              case measure => simp [intOf]; omega
      by_cases hkg : 7 < kd
      · cases hdn : dn
        · rcases cls_app hd hdn (.inr hkg) m ys with ⟨le2, hr⟩ | ⟨kk, hr⟩ | hr
          · as_aux_lemma =>
              subst hdn
              have hfin := actF_fine hd kd m ys
              rw [hr] at G1 hfin
              generalize hxs2 : xs ++ ys = xs2 at G1 hfin
              have HXS := Lib.hid hxs2
              clear hxs2
              have HO := Lib.hid (show okD ⟨s, xs2, du, le2, false⟩ = true by rcases hfin with ⟨_, k1, _⟩ | ⟨_, k1, _⟩ | k1 | k1 <;> first | exact k1 | (simp at k1))
              clear hd hfin
              go_upto_region 9 with fail
              have b10 := Ob.new wr (.int .i64 kd) (.int .i64 m) (.slice B ys.length cb)
              have hop := HO0.out _ hst.bel
              replace hst := hst.keep (one_ (.cells #[.int .i64 kd, .int .i64 m, .slice B ys.length cb] 34))
              have hsl := hop.sl.alloc (.cells #[.int .i64 kd, .int .i64 m, .slice B ys.length cb] 34)
              have hl10 : g5 < wr.heap.size := hl5
              clear p0 p1 p2 hop
              generalize wr.alloc (.cells #[.int .i64 kd, .int .i64 m, .slice B ys.length cb] 34) = V1 at b10 hst hsl ⊢
              generalize wr.heap.size = g10 at b10 hl10 ⊢
              have q := hst.b5
              obtain ⟨-, k0, k1, k2, k3, k4, kf⟩ := q
              have q := b10
              obtain ⟨-, j0, j1, j2⟩ := q
              go_wp2_with fail
              refine (G1.out _ hst.s5 hsl).mono ?_
              rintro e W ⟨A11, c11, rfl, hS11, hs11, hb⟩
              dsimp only [dval] at hS11 hs11 ⊢
              have pa5 := hs11 g5 hst.b5.lt hst.p55
              clear k0 k1 k2 k3 k4 kf j0 j1 j2 hs11 G1
              replace hst := hst.keep hb
              replace b10 := b10.keep hb
              replace hsl := hsl.keep hb
              clear hb
              go_upto_region 10 with fail
              have b11 := Bx.new W (.int .i64 s) (.slice A11 xs2.length c11) (.int .i64 du) (.int .i64 le2) (.bool false)
              have hl11 : g10 < W.heap.size := b10.lt
              replace hst := hst.keep (one_ (.cells #[.int .i64 s, .slice A11 xs2.length c11, .int .i64 du, .int .i64 le2, .bool false] 27))
              replace b10 := b10.alloc (.cells #[.int .i64 s, .slice A11 xs2.length c11, .int .i64 du, .int .i64 le2, .bool false] 27)
              replace hsl := hsl.alloc (.cells #[.int .i64 s, .slice A11 xs2.length c11, .int .i64 du, .int .i64 le2, .bool false] 27)
              replace hS11 := hS11.alloc (.cells #[.int .i64 s, .slice A11 xs2.length c11, .int .i64 du, .int .i64 le2, .bool false] 27)
              generalize W.alloc (.cells #[.int .i64 s, .slice A11 xs2.length c11, .int .i64 du, .int .i64 le2, .bool false] 27) = V2 at b10 b11 hst hsl hS11 ⊢
              generalize W.heap.size = g11 at b11 hl11 ⊢
              have q := hst.b5
              obtain ⟨-, k0, k1, k2, k3, k4, kf⟩ := q
              have q := b10
              obtain ⟨-, j0, j1, j2⟩ := q
              have q := b11
              obtain ⟨-, i0, i1, i2, i3, i4, if_⟩ := q
              have f0 : ¬ (kd < 3) := by omega
              have f1 : (7 < kd) := hkg
              have f3 : (kd == 3) = false := by simp; omega
              have f4 : (kd == 4) = false := by simp; omega
              have f5 : (kd == 5) = false := by simp; omega
              have f7 : (kd == 7) = false := by simp; omega
              have hsy := str_size ys
              have cvo := conv_row hsl.row _ cb rfl
              have hcat0 : SX ++ strOfNums ys = strOfNums (xs ++ ys) := by rw [← HX.out]; exact str_append xs ys
              generalize strOfNums ys = SY at hsy cvo hcat0
              have hxl : xs.length ≤ 8388608 := by omega
              have hyl : ys.length ≤ 8388608 := by omega
              have hsz := str_size xs2
              have hext0 : (strOfNums xs2).extract 0 xs2.length = strOfNums xs2 := by rw [str_take, List.take_length]
              rw [HXS.out] at hcat0
              generalize hS2 : strOfNums xs2 = S2 at hsz hcat0 hext0
              have HX2 := Lib.hid hS2
              clear hS2
              have hl1 : xs2.length = xs.length + ys.length := by rw [← HXS.out, List.length_append]
              have hl2 : xs.length + ys.length ≤ xs2.length := by omega
              have hl3 : du ≤ xs2.length := by omega
              clear hl1
              go_upto_region 21 with fail
              clear k0 k1 k2 k3 k4 kf j0 j1 j2 i0 i1 i2 i3 i4 if_
              obtain ⟨b5, -, -, hlo, hB⟩ := hst
              replace b5 := b5.store (.int .i64 s) (.slice A11 xs2.length c11) (.int .i64 du) (.int .i64 le2) (.bool false)
              replace hS11 := (Sl.setCell (Sl.setCell (Sl.setCell (Sl.setCell (Sl.setCell hS11 ⟨g5, 0, none⟩ (.int .i64 s) pa5) ⟨g5, 1, none⟩ (.slice A11 xs2.length c11) pa5) ⟨g5, 2, none⟩ (.int .i64 du) pa5) ⟨g5, 3, none⟩ (.int .i64 le2) pa5) ⟨g5, 4, none⟩ (.bool false) pa5)
              replace b10 := (Ob.far (Ob.far (Ob.far (Ob.far (Ob.far b10 ⟨g5, 0, none⟩ (.int .i64 s) (by show g10 ≠ g5; omega)) ⟨g5, 1, none⟩ (.slice A11 xs2.length c11) (by show g10 ≠ g5; omega)) ⟨g5, 2, none⟩ (.int .i64 du) (by show g10 ≠ g5; omega)) ⟨g5, 3, none⟩ (.int .i64 le2) (by show g10 ≠ g5; omega)) ⟨g5, 4, none⟩ (.bool false) (by show g10 ≠ g5; omega))
              replace hB : Below w.heap.size w (((((V2.setCell ⟨g5, 0, none⟩ (.int .i64 s)).setCell ⟨g5, 1, none⟩ (.slice A11 xs2.length c11)).setCell ⟨g5, 2, none⟩ (.int .i64 du)).setCell ⟨g5, 3, none⟩ (.int .i64 le2)).setCell ⟨g5, 4, none⟩ (.bool false)) := by (repeat' (first | (with_reducible exact hB) | (with_reducible exact Below.refl _ _) | (with_reducible refine Below.setCell ?_ ?_ _) | (with_reducible refine Below.alloc ?_ ?_ _) | (with_reducible refine Below.drew ?_) | (simp; done) | omega | (simp; omega)))
              clear hsl b11
              generalize (((((V2.setCell ⟨g5, 0, none⟩ (.int .i64 s)).setCell ⟨g5, 1, none⟩ (.slice A11 xs2.length c11)).setCell ⟨g5, 2, none⟩ (.int .i64 du)).setCell ⟨g5, 3, none⟩ (.int .i64 le2)).setCell ⟨g5, 4, none⟩ (.bool false)) = V3 at b5 b10 hS11 hB ⊢
              have MK := Lib.hid (fun (X : World) (h : Below V3.heap.size V3 X) => (⟨⟨(b5.keep h).c1, (conv_row (hS11.keep h).row _ c11 rfl).trans (by rw [HX2.out])⟩, h⟩ : (X.cell? ⟨g5, 1, none⟩ = some (.slice A11 xs2.length c11) ∧ (convert 25 9 (.slice A11 xs2.length c11)).run Try.prog X = .ok (.string S2) X) ∧ Below V3.heap.size V3 X))
              have hS := MK.out _ (Below.refl _ _).drew
              go_cut [129] from 26 to 145 (fun p wx => p = .bool false ∧ Below V3.heap.size V3 wx)
              case first =>
                go_region_held3 (fun X => (X.cell? ⟨g5, 1, none⟩ = some (.slice A11 xs2.length c11) ∧ (convert 25 9 (.slice A11 xs2.length c11)).run Try.prog X = .ok (.string S2) X) ∧ Below V3.heap.size V3 X)
                  (first
                    | with_reducible exact hS
                    | (refine MK.out _ ?_; (repeat' (first | (with_reducible exact hB0) | (with_reducible exact Below.refl _ _) | (with_reducible refine Below.setCell ?_ ?_ _) | (with_reducible refine Below.alloc ?_ ?_ _) | (with_reducible refine Below.drew ?_) | (simp; done) | omega | (simp; omega)))))
                  (first | fail)
                all_goals
                  go_wp2_with fail
                  go_meet
                  first
                    | exact ⟨rfl, by (repeat' (first | (with_reducible exact hB0) | (with_reducible exact Below.refl _ _) | (with_reducible refine Below.setCell ?_ ?_ _) | (with_reducible refine Below.alloc ?_ ?_ _) | (with_reducible refine Below.drew ?_) | (simp; done) | omega | (simp; omega)))⟩
                    | exact ⟨congrArg Value.bool (decide_eq_false (by omega)), by (repeat' (first | (with_reducible exact hB0) | (with_reducible exact Below.refl _ _) | (with_reducible refine Below.setCell ?_ ?_ _) | (with_reducible refine Below.alloc ?_ ?_ _) | (with_reducible refine Below.drew ?_) | (simp; done) | omega | (simp; omega)))⟩
              case rest =>
                obtain ⟨rfl, hb⟩ := hcut
                clear hS
                have cv := (MK.out _ hb).1.2
                clear MK
                replace b5 := b5.keep hb
                replace b10 := b10.keep hb
                replace hS11 := hS11.keep hb
                replace hB := below_step hB hb
                clear hb
                have q := b5
                obtain ⟨-, k0, k1, k2, k3, k4, kf⟩ := q
                have q := b10
                obtain ⟨-, j0, j1, j2⟩ := q
                go_wp2
                go_roundw
                case rel => exact Inv.mk w g5 L.length _ _ _ _ (k + 1) (s) (xs2) (du) (le2) false A11 c11 (by omega) (by go_num) (by rw [HX2.out]) rfl HO.out ⟨b5, hS11, pa5, hlo, hB⟩
                case measure => simp [intOf]; omega
          · as_aux_lemma =>
              subst hdn
              have hfin := actF_fine hd kd m ys
              rw [hr] at G1 hfin
              generalize hxs2 : xs ++ ys.take kk = xs2 at G1 hfin
              have HXS := Lib.hid hxs2
              clear hxs2
              have HO := Lib.hid (show okD ⟨s, xs2, du, 0, true⟩ = true by rcases hfin with ⟨_, k1, _⟩ | ⟨_, k1, _⟩ | k1 | k1 <;> first | exact k1 | (simp at k1))
              clear hd hfin
              go_upto_region 9 with fail
              have b10 := Ob.new wr (.int .i64 kd) (.int .i64 m) (.slice B ys.length cb)
              have hop := HO0.out _ hst.bel
              replace hst := hst.keep (one_ (.cells #[.int .i64 kd, .int .i64 m, .slice B ys.length cb] 34))
              have hsl := hop.sl.alloc (.cells #[.int .i64 kd, .int .i64 m, .slice B ys.length cb] 34)
              have hl10 : g5 < wr.heap.size := hl5
              clear p0 p1 p2 hop
              generalize wr.alloc (.cells #[.int .i64 kd, .int .i64 m, .slice B ys.length cb] 34) = V1 at b10 hst hsl ⊢
              generalize wr.heap.size = g10 at b10 hl10 ⊢
              have q := hst.b5
              obtain ⟨-, k0, k1, k2, k3, k4, kf⟩ := q
              have q := b10
              obtain ⟨-, j0, j1, j2⟩ := q
              go_wp2_with fail
              refine (G1.out _ hst.s5 hsl).mono ?_
              rintro e W ⟨A11, c11, rfl, hS11, hs11, hb⟩
              dsimp only [dval] at hS11 hs11 ⊢
              have pa5 := hs11 g5 hst.b5.lt hst.p55
              clear k0 k1 k2 k3 k4 kf j0 j1 j2 hs11 G1
              replace hst := hst.keep hb
              replace b10 := b10.keep hb
              replace hsl := hsl.keep hb
              clear hb
              go_upto_region 10 with fail
              have b11 := Bx.new W (.int .i64 s) (.slice A11 xs2.length c11) (.int .i64 du) (.int .i64 0) (.bool true)
              have hl11 : g10 < W.heap.size := b10.lt
              replace hst := hst.keep (one_ (.cells #[.int .i64 s, .slice A11 xs2.length c11, .int .i64 du, .int .i64 0, .bool true] 27))
              replace b10 := b10.alloc (.cells #[.int .i64 s, .slice A11 xs2.length c11, .int .i64 du, .int .i64 0, .bool true] 27)
              replace hsl := hsl.alloc (.cells #[.int .i64 s, .slice A11 xs2.length c11, .int .i64 du, .int .i64 0, .bool true] 27)
              replace hS11 := hS11.alloc (.cells #[.int .i64 s, .slice A11 xs2.length c11, .int .i64 du, .int .i64 0, .bool true] 27)
              generalize W.alloc (.cells #[.int .i64 s, .slice A11 xs2.length c11, .int .i64 du, .int .i64 0, .bool true] 27) = V2 at b10 b11 hst hsl hS11 ⊢
              generalize W.heap.size = g11 at b11 hl11 ⊢
              have q := hst.b5
              obtain ⟨-, k0, k1, k2, k3, k4, kf⟩ := q
              have q := b10
              obtain ⟨-, j0, j1, j2⟩ := q
              have q := b11
              obtain ⟨-, i0, i1, i2, i3, i4, if_⟩ := q
              have f0 : ¬ (kd < 3) := by omega
              have f1 : (7 < kd) := hkg
              have f3 : (kd == 3) = false := by simp; omega
              have f4 : (kd == 4) = false := by simp; omega
              have f5 : (kd == 5) = false := by simp; omega
              have f7 : (kd == 7) = false := by simp; omega
              have hsy := str_size ys
              have cvo := conv_row hsl.row _ cb rfl
              have hcat0 : SX ++ strOfNums ys = strOfNums (xs ++ ys) := by rw [← HX.out]; exact str_append xs ys
              generalize strOfNums ys = SY at hsy cvo hcat0
              have hxl : xs.length ≤ 8388608 := by omega
              have hyl : ys.length ≤ 8388608 := by omega
              have hsz := str_size (xs ++ ys)
              have hext0 : (strOfNums (xs ++ ys)).extract 0 xs2.length = strOfNums xs2 := by rw [str_take, ← HXS.out]; congr 1; rw [List.length_append, List.take_length_add_append, take_len_take]
              generalize hS2 : strOfNums xs2 = S2 at hext0
              have HX2 := Lib.hid hS2
              clear hS2
              generalize strOfNums (xs ++ ys) = SW at hsz hcat0 hext0
              rw [List.length_append] at hsz
              have hl1 : xs2.length ≤ xs.length + (ys.take kk).length := by rw [← HXS.out, List.length_append]; omega
              have hl6 : xs.length ≤ xs2.length := by rw [← HXS.out, List.length_append]; omega
              have htl : (ys.take kk).length ≤ ys.length := by rw [List.length_take]; omega
              have hnw : ∃ nw, nw = xs.length + ys.length := ⟨_, rfl⟩
              obtain ⟨nw, hnw⟩ := hnw
              rw [← hnw] at hsz
              have hl2 : xs2.length ≤ nw := by omega
              have hl4 : decide (nw < xs2.length) = false := by simp; omega
              clear hnw
              have hl3 : du ≤ xs2.length := by omega
              clear htl
              go_upto_region 21 with fail
              clear k0 k1 k2 k3 k4 kf j0 j1 j2 i0 i1 i2 i3 i4 if_
              obtain ⟨b5, -, -, hlo, hB⟩ := hst
              replace b5 := b5.store (.int .i64 s) (.slice A11 xs2.length c11) (.int .i64 du) (.int .i64 0) (.bool true)
              replace hS11 := (Sl.setCell (Sl.setCell (Sl.setCell (Sl.setCell (Sl.setCell hS11 ⟨g5, 0, none⟩ (.int .i64 s) pa5) ⟨g5, 1, none⟩ (.slice A11 xs2.length c11) pa5) ⟨g5, 2, none⟩ (.int .i64 du) pa5) ⟨g5, 3, none⟩ (.int .i64 0) pa5) ⟨g5, 4, none⟩ (.bool true) pa5)
              replace b10 := (Ob.far (Ob.far (Ob.far (Ob.far (Ob.far b10 ⟨g5, 0, none⟩ (.int .i64 s) (by show g10 ≠ g5; omega)) ⟨g5, 1, none⟩ (.slice A11 xs2.length c11) (by show g10 ≠ g5; omega)) ⟨g5, 2, none⟩ (.int .i64 du) (by show g10 ≠ g5; omega)) ⟨g5, 3, none⟩ (.int .i64 0) (by show g10 ≠ g5; omega)) ⟨g5, 4, none⟩ (.bool true) (by show g10 ≠ g5; omega))
              replace hB : Below w.heap.size w (((((V2.setCell ⟨g5, 0, none⟩ (.int .i64 s)).setCell ⟨g5, 1, none⟩ (.slice A11 xs2.length c11)).setCell ⟨g5, 2, none⟩ (.int .i64 du)).setCell ⟨g5, 3, none⟩ (.int .i64 0)).setCell ⟨g5, 4, none⟩ (.bool true)) := by (repeat' (first | (with_reducible exact hB) | (with_reducible exact Below.refl _ _) | (with_reducible refine Below.setCell ?_ ?_ _) | (with_reducible refine Below.alloc ?_ ?_ _) | (with_reducible refine Below.drew ?_) | (simp; done) | omega | (simp; omega)))
              clear hsl b11
              generalize (((((V2.setCell ⟨g5, 0, none⟩ (.int .i64 s)).setCell ⟨g5, 1, none⟩ (.slice A11 xs2.length c11)).setCell ⟨g5, 2, none⟩ (.int .i64 du)).setCell ⟨g5, 3, none⟩ (.int .i64 0)).setCell ⟨g5, 4, none⟩ (.bool true)) = V3 at b5 b10 hS11 hB ⊢
              have MK := Lib.hid (fun (X : World) (h : Below V3.heap.size V3 X) => (⟨⟨(b5.keep h).c1, (conv_row (hS11.keep h).row _ c11 rfl).trans (by rw [HX2.out])⟩, h⟩ : (X.cell? ⟨g5, 1, none⟩ = some (.slice A11 xs2.length c11) ∧ (convert 25 9 (.slice A11 xs2.length c11)).run Try.prog X = .ok (.string S2) X) ∧ Below V3.heap.size V3 X))
              have hS := MK.out _ (Below.refl _ _).drew
              go_cut [129] from 26 to 145 (fun p wx => p = .bool false ∧ Below V3.heap.size V3 wx)
              case first =>
                go_region_held3 (fun X => (X.cell? ⟨g5, 1, none⟩ = some (.slice A11 xs2.length c11) ∧ (convert 25 9 (.slice A11 xs2.length c11)).run Try.prog X = .ok (.string S2) X) ∧ Below V3.heap.size V3 X)
                  (first
                    | with_reducible exact hS
                    | (refine MK.out _ ?_; (repeat' (first | (with_reducible exact hB0) | (with_reducible exact Below.refl _ _) | (with_reducible refine Below.setCell ?_ ?_ _) | (with_reducible refine Below.alloc ?_ ?_ _) | (with_reducible refine Below.drew ?_) | (simp; done) | omega | (simp; omega)))))
                  (first | fail)
                all_goals
                  go_wp2_with fail
                  go_meet
                  first
                    | exact ⟨rfl, by (repeat' (first | (with_reducible exact hB0) | (with_reducible exact Below.refl _ _) | (with_reducible refine Below.setCell ?_ ?_ _) | (with_reducible refine Below.alloc ?_ ?_ _) | (with_reducible refine Below.drew ?_) | (simp; done) | omega | (simp; omega)))⟩
                    | exact ⟨congrArg Value.bool (decide_eq_false (by omega)), by (repeat' (first | (with_reducible exact hB0) | (with_reducible exact Below.refl _ _) | (with_reducible refine Below.setCell ?_ ?_ _) | (with_reducible refine Below.alloc ?_ ?_ _) | (with_reducible refine Below.drew ?_) | (simp; done) | omega | (simp; omega)))⟩
              case rest =>
                obtain ⟨rfl, hb⟩ := hcut
                clear hS
                have cv := (MK.out _ hb).1.2
                clear MK
                replace b5 := b5.keep hb
                replace b10 := b10.keep hb
                replace hS11 := hS11.keep hb
                replace hB := below_step hB hb
                clear hb
                have q := b5
                obtain ⟨-, k0, k1, k2, k3, k4, kf⟩ := q
                have q := b10
                obtain ⟨-, j0, j1, j2⟩ := q
                go_wp2
                go_roundw
                case rel => exact Inv.mk w g5 L.length _ _ _ _ (k + 1) (s) (xs2) (du) (0) true A11 c11 (by omega) (by go_num) (by rw [HX2.out]) rfl HO.out ⟨b5, hS11, pa5, hlo, hB⟩
                case measure => simp [intOf]; omega
          · as_aux_lemma =>
              subst hdn
              rw [hr] at G1
              clear hd
              go_upto_region 9 with fail
              have b10 := Ob.new wr (.int .i64 kd) (.int .i64 m) (.slice B ys.length cb)
              have hop := HO0.out _ hst.bel
              replace hst := hst.keep (one_ (.cells #[.int .i64 kd, .int .i64 m, .slice B ys.length cb] 34))
              have hsl := hop.sl.alloc (.cells #[.int .i64 kd, .int .i64 m, .slice B ys.length cb] 34)
              have hl10 : g5 < wr.heap.size := hl5
              clear p0 p1 p2 hop
              generalize wr.alloc (.cells #[.int .i64 kd, .int .i64 m, .slice B ys.length cb] 34) = V1 at b10 hst hsl ⊢
              generalize wr.heap.size = g10 at b10 hl10 ⊢
              have q := hst.b5
              obtain ⟨-, k0, k1, k2, k3, k4, kf⟩ := q
              have q := b10
              obtain ⟨-, j0, j1, j2⟩ := q
              go_wp2_with fail
              refine (G1.out _ hst.s5 hsl).mono ?_
              rintro e W ⟨A11, c11, rfl, hS11, hs11, hb⟩
              dsimp only [dval, dz, List.length_nil] at hS11 hs11 ⊢
              have pa5 := hs11 g5 hst.b5.lt hst.p55
              clear k0 k1 k2 k3 k4 kf j0 j1 j2 hs11 G1
              replace hst := hst.keep hb
              replace b10 := b10.keep hb
              replace hsl := hsl.keep hb
              clear hb
              go_upto_region 10 with fail
              have b11 := Bx.new W (.int .i64 0) (.slice A11 0 c11) (.int .i64 0) (.int .i64 0) (.bool false)
              have hl11 : g10 < W.heap.size := b10.lt
              replace hst := hst.keep (one_ (.cells #[.int .i64 0, .slice A11 0 c11, .int .i64 0, .int .i64 0, .bool false] 27))
              replace b10 := b10.alloc (.cells #[.int .i64 0, .slice A11 0 c11, .int .i64 0, .int .i64 0, .bool false] 27)
              replace hsl := hsl.alloc (.cells #[.int .i64 0, .slice A11 0 c11, .int .i64 0, .int .i64 0, .bool false] 27)
              replace hS11 := hS11.alloc (.cells #[.int .i64 0, .slice A11 0 c11, .int .i64 0, .int .i64 0, .bool false] 27)
              generalize W.alloc (.cells #[.int .i64 0, .slice A11 0 c11, .int .i64 0, .int .i64 0, .bool false] 27) = V2 at b10 b11 hst hsl hS11 ⊢
              generalize W.heap.size = g11 at b11 hl11 ⊢
              go_wp2
              go_roundw
              case rel => exact Inv.mk w g5 L.length _ _ _ _ (k + 1) s xs du le _ A5 c5 (by omega) (by go_num) (by rw [HX.out]) rfl HD.out hst
              case measure => simp [intOf]; omega
        · as_aux_lemma =>
            subst hdn
            rw [cls_err hd rfl (by omega) m ys] at G1
            have HO := Lib.hid hd
            clear hd
            go_upto_region 9 with fail
            have b10 := Ob.new wr (.int .i64 kd) (.int .i64 m) (.slice B ys.length cb)
            have hop := HO0.out _ hst.bel
            replace hst := hst.keep (one_ (.cells #[.int .i64 kd, .int .i64 m, .slice B ys.length cb] 34))
            have hsl := hop.sl.alloc (.cells #[.int .i64 kd, .int .i64 m, .slice B ys.length cb] 34)
            have hl10 : g5 < wr.heap.size := hl5
            clear p0 p1 p2 hop
            generalize wr.alloc (.cells #[.int .i64 kd, .int .i64 m, .slice B ys.length cb] 34) = V1 at b10 hst hsl ⊢
            generalize wr.heap.size = g10 at b10 hl10 ⊢
            have q := hst.b5
            obtain ⟨-, k0, k1, k2, k3, k4, kf⟩ := q
            have q := b10
            obtain ⟨-, j0, j1, j2⟩ := q
            go_wp2_with fail
            refine (G1.out _ hst.s5 hsl).mono ?_
            rintro e W ⟨A11, c11, rfl, hS11, hs11, hb⟩
            dsimp only [dval] at hS11 hs11 ⊢
            have pa5 := hs11 g5 hst.b5.lt hst.p55
            clear k0 k1 k2 k3 k4 kf j0 j1 j2 hs11 G1
            replace hst := hst.keep hb
            replace b10 := b10.keep hb
            replace hsl := hsl.keep hb
            clear hb
            go_upto_region 10 with fail
            have b11 := Bx.new W (.int .i64 s) (.slice A11 xs.length c11) (.int .i64 du) (.int .i64 le) (.bool true)
            have hl11 : g10 < W.heap.size := b10.lt
            replace hst := hst.keep (one_ (.cells #[.int .i64 s, .slice A11 xs.length c11, .int .i64 du, .int .i64 le, .bool true] 27))
            replace b10 := b10.alloc (.cells #[.int .i64 s, .slice A11 xs.length c11, .int .i64 du, .int .i64 le, .bool true] 27)
            replace hsl := hsl.alloc (.cells #[.int .i64 s, .slice A11 xs.length c11, .int .i64 du, .int .i64 le, .bool true] 27)
            replace hS11 := hS11.alloc (.cells #[.int .i64 s, .slice A11 xs.length c11, .int .i64 du, .int .i64 le, .bool true] 27)
            generalize W.alloc (.cells #[.int .i64 s, .slice A11 xs.length c11, .int .i64 du, .int .i64 le, .bool true] 27) = V2 at b10 b11 hst hsl hS11 ⊢
            generalize W.heap.size = g11 at b11 hl11 ⊢
            have q := hst.b5
            obtain ⟨-, k0, k1, k2, k3, k4, kf⟩ := q
            have q := b10
            obtain ⟨-, j0, j1, j2⟩ := q
            have q := b11
            obtain ⟨-, i0, i1, i2, i3, i4, if_⟩ := q
            have f0 : ¬ (kd < 3) := by omega
            have f1 : (7 < kd) := hkg
            have f3 : (kd == 3) = false := by simp; omega
            have f4 : (kd == 4) = false := by simp; omega
            have f5 : (kd == 5) = false := by simp; omega
            have f7 : (kd == 7) = false := by simp; omega
            have hext : SX.extract 0 xs.length = SX := by rw [← HX.out, str_take, List.take_length]
            go_upto_region 21 with fail
            clear k0 k1 k2 k3 k4 kf j0 j1 j2 i0 i1 i2 i3 i4 if_
            obtain ⟨b5, -, -, hlo, hB⟩ := hst
            replace b5 := b5.store (.int .i64 s) (.slice A11 xs.length c11) (.int .i64 du) (.int .i64 le) (.bool true)
            replace hS11 := (Sl.setCell (Sl.setCell (Sl.setCell (Sl.setCell (Sl.setCell hS11 ⟨g5, 0, none⟩ (.int .i64 s) pa5) ⟨g5, 1, none⟩ (.slice A11 xs.length c11) pa5) ⟨g5, 2, none⟩ (.int .i64 du) pa5) ⟨g5, 3, none⟩ (.int .i64 le) pa5) ⟨g5, 4, none⟩ (.bool true) pa5)
            replace b10 := (Ob.far (Ob.far (Ob.far (Ob.far (Ob.far b10 ⟨g5, 0, none⟩ (.int .i64 s) (by show g10 ≠ g5; omega)) ⟨g5, 1, none⟩ (.slice A11 xs.length c11) (by show g10 ≠ g5; omega)) ⟨g5, 2, none⟩ (.int .i64 du) (by show g10 ≠ g5; omega)) ⟨g5, 3, none⟩ (.int .i64 le) (by show g10 ≠ g5; omega)) ⟨g5, 4, none⟩ (.bool true) (by show g10 ≠ g5; omega))
            replace hB : Below w.heap.size w (((((V2.setCell ⟨g5, 0, none⟩ (.int .i64 s)).setCell ⟨g5, 1, none⟩ (.slice A11 xs.length c11)).setCell ⟨g5, 2, none⟩ (.int .i64 du)).setCell ⟨g5, 3, none⟩ (.int .i64 le)).setCell ⟨g5, 4, none⟩ (.bool true)) := by (repeat' (first | (with_reducible exact hB) | (with_reducible exact Below.refl _ _) | (with_reducible refine Below.setCell ?_ ?_ _) | (with_reducible refine Below.alloc ?_ ?_ _) | (with_reducible refine Below.drew ?_) | (simp; done) | omega | (simp; omega)))
            clear hsl b11
            generalize (((((V2.setCell ⟨g5, 0, none⟩ (.int .i64 s)).setCell ⟨g5, 1, none⟩ (.slice A11 xs.length c11)).setCell ⟨g5, 2, none⟩ (.int .i64 du)).setCell ⟨g5, 3, none⟩ (.int .i64 le)).setCell ⟨g5, 4, none⟩ (.bool true)) = V3 at b5 b10 hS11 hB ⊢
            have MK := Lib.hid (fun (X : World) (h : Below V3.heap.size V3 X) => (⟨⟨(b5.keep h).c1, (conv_row (hS11.keep h).row _ c11 rfl).trans (by rw [HX.out])⟩, h⟩ : (X.cell? ⟨g5, 1, none⟩ = some (.slice A11 xs.length c11) ∧ (convert 25 9 (.slice A11 xs.length c11)).run Try.prog X = .ok (.string SX) X) ∧ Below V3.heap.size V3 X))
            have hS := MK.out _ (Below.refl _ _).drew
            go_cut [129] from 26 to 145 (fun p wx => p = .bool false ∧ Below V3.heap.size V3 wx)
            case first =>
              go_region_held3 (fun X => (X.cell? ⟨g5, 1, none⟩ = some (.slice A11 xs.length c11) ∧ (convert 25 9 (.slice A11 xs.length c11)).run Try.prog X = .ok (.string SX) X) ∧ Below V3.heap.size V3 X)
                (first
                  | with_reducible exact hS
                  | (refine MK.out _ ?_; (repeat' (first | (with_reducible exact hB0) | (with_reducible exact Below.refl _ _) | (with_reducible refine Below.setCell ?_ ?_ _) | (with_reducible refine Below.alloc ?_ ?_ _) | (with_reducible refine Below.drew ?_) | (simp; done) | omega | (simp; omega)))))
                (first | fail)
              all_goals
                go_wp2_with fail
                go_meet
                first
                  | exact ⟨rfl, by (repeat' (first | (with_reducible exact hB0) | (with_reducible exact Below.refl _ _) | (with_reducible refine Below.setCell ?_ ?_ _) | (with_reducible refine Below.alloc ?_ ?_ _) | (with_reducible refine Below.drew ?_) | (simp; done) | omega | (simp; omega)))⟩
                  | exact ⟨congrArg Value.bool (decide_eq_false (by omega)), by (repeat' (first | (with_reducible exact hB0) | (with_reducible exact Below.refl _ _) | (with_reducible refine Below.setCell ?_ ?_ _) | (with_reducible refine Below.alloc ?_ ?_ _) | (with_reducible refine Below.drew ?_) | (simp; done) | omega | (simp; omega)))⟩
            case rest =>
              obtain ⟨rfl, hb⟩ := hcut
              clear hS
              have cv := (MK.out _ hb).1.2
              clear MK
              replace b5 := b5.keep hb
              replace b10 := b10.keep hb
              replace hS11 := hS11.keep hb
              replace hB := below_step hB hb
              clear hb
              have q := b5
              obtain ⟨-, k0, k1, k2, k3, k4, kf⟩ := q
              have q := b10
              obtain ⟨-, j0, j1, j2⟩ := q
              go_wp2
              go_roundw
              case rel => exact Inv.mk w g5 L.length _ _ _ _ (k + 1) (s) (xs) (du) (le) true A11 c11 (by omega) (by go_num) (by rw [HX.out]) rfl HO.out ⟨b5, hS11, pa5, hlo, hB⟩
              case measure => simp [intOf]; omega
      by_cases hkd : kd = 3
      · subst hkd
        cases hdn : dn
        · rcases cls_sync hd hdn (.inl rfl) m ys with hr | hr
          · as_aux_lemma =>
              subst hdn
              have hfin := actF_fine hd 3 m ys
              rw [hr] at G1 hfin
              have HO := Lib.hid (show okD ⟨s, xs, xs.length, le, false⟩ = true by rcases hfin with ⟨_, k1, _⟩ | ⟨_, k1, _⟩ | k1 | k1 <;> first | exact k1 | (simp at k1))
              clear hd hfin
              go_upto_region 9 with fail
              have b10 := Ob.new wr (.int .i64 3) (.int .i64 m) (.slice B ys.length cb)
              have hop := HO0.out _ hst.bel
              replace hst := hst.keep (one_ (.cells #[.int .i64 3, .int .i64 m, .slice B ys.length cb] 34))
              have hsl := hop.sl.alloc (.cells #[.int .i64 3, .int .i64 m, .slice B ys.length cb] 34)
              have hl10 : g5 < wr.heap.size := hl5
              clear p0 p1 p2 hop
              generalize wr.alloc (.cells #[.int .i64 3, .int .i64 m, .slice B ys.length cb] 34) = V1 at b10 hst hsl ⊢
              generalize wr.heap.size = g10 at b10 hl10 ⊢
              have q := hst.b5
              obtain ⟨-, k0, k1, k2, k3, k4, kf⟩ := q
              have q := b10
              obtain ⟨-, j0, j1, j2⟩ := q
              go_wp2_with fail
              refine (G1.out _ hst.s5 hsl).mono ?_
              rintro e W ⟨A11, c11, rfl, hS11, hs11, hb⟩
              dsimp only [dval] at hS11 hs11 ⊢
              have pa5 := hs11 g5 hst.b5.lt hst.p55
              clear k0 k1 k2 k3 k4 kf j0 j1 j2 hs11 G1
              replace hst := hst.keep hb
              replace b10 := b10.keep hb
              replace hsl := hsl.keep hb
              clear hb
              go_upto_region 10 with fail
              have b11 := Bx.new W (.int .i64 s) (.slice A11 xs.length c11) (.int .i64 xs.length) (.int .i64 le) (.bool false)
              have hl11 : g10 < W.heap.size := b10.lt
              replace hst := hst.keep (one_ (.cells #[.int .i64 s, .slice A11 xs.length c11, .int .i64 xs.length, .int .i64 le, .bool false] 27))
              replace b10 := b10.alloc (.cells #[.int .i64 s, .slice A11 xs.length c11, .int .i64 xs.length, .int .i64 le, .bool false] 27)
              replace hsl := hsl.alloc (.cells #[.int .i64 s, .slice A11 xs.length c11, .int .i64 xs.length, .int .i64 le, .bool false] 27)
              replace hS11 := hS11.alloc (.cells #[.int .i64 s, .slice A11 xs.length c11, .int .i64 xs.length, .int .i64 le, .bool false] 27)
              generalize W.alloc (.cells #[.int .i64 s, .slice A11 xs.length c11, .int .i64 xs.length, .int .i64 le, .bool false] 27) = V2 at b10 b11 hst hsl hS11 ⊢
              generalize W.heap.size = g11 at b11 hl11 ⊢
              have q := hst.b5
              obtain ⟨-, k0, k1, k2, k3, k4, kf⟩ := q
              have q := b10
              obtain ⟨-, j0, j1, j2⟩ := q
              have q := b11
              obtain ⟨-, i0, i1, i2, i3, i4, if_⟩ := q
              have hext : SX.extract 0 xs.length = SX := by rw [← HX.out, str_take, List.take_length]
              go_upto_region 21 with fail
              clear k0 k1 k2 k3 k4 kf j0 j1 j2 i0 i1 i2 i3 i4 if_
              obtain ⟨b5, -, -, hlo, hB⟩ := hst
              replace b5 := b5.store (.int .i64 s) (.slice A11 xs.length c11) (.int .i64 xs.length) (.int .i64 le) (.bool false)
              replace hS11 := (Sl.setCell (Sl.setCell (Sl.setCell (Sl.setCell (Sl.setCell hS11 ⟨g5, 0, none⟩ (.int .i64 s) pa5) ⟨g5, 1, none⟩ (.slice A11 xs.length c11) pa5) ⟨g5, 2, none⟩ (.int .i64 xs.length) pa5) ⟨g5, 3, none⟩ (.int .i64 le) pa5) ⟨g5, 4, none⟩ (.bool false) pa5)
              replace b10 := (Ob.far (Ob.far (Ob.far (Ob.far (Ob.far b10 ⟨g5, 0, none⟩ (.int .i64 s) (by show g10 ≠ g5; omega)) ⟨g5, 1, none⟩ (.slice A11 xs.length c11) (by show g10 ≠ g5; omega)) ⟨g5, 2, none⟩ (.int .i64 xs.length) (by show g10 ≠ g5; omega)) ⟨g5, 3, none⟩ (.int .i64 le) (by show g10 ≠ g5; omega)) ⟨g5, 4, none⟩ (.bool false) (by show g10 ≠ g5; omega))
              replace hB : Below w.heap.size w (((((V2.setCell ⟨g5, 0, none⟩ (.int .i64 s)).setCell ⟨g5, 1, none⟩ (.slice A11 xs.length c11)).setCell ⟨g5, 2, none⟩ (.int .i64 xs.length)).setCell ⟨g5, 3, none⟩ (.int .i64 le)).setCell ⟨g5, 4, none⟩ (.bool false)) := by (repeat' (first | (with_reducible exact hB) | (with_reducible exact Below.refl _ _) | (with_reducible refine Below.setCell ?_ ?_ _) | (with_reducible refine Below.alloc ?_ ?_ _) | (with_reducible refine Below.drew ?_) | (simp; done) | omega | (simp; omega)))
              clear hsl b11
              generalize (((((V2.setCell ⟨g5, 0, none⟩ (.int .i64 s)).setCell ⟨g5, 1, none⟩ (.slice A11 xs.length c11)).setCell ⟨g5, 2, none⟩ (.int .i64 xs.length)).setCell ⟨g5, 3, none⟩ (.int .i64 le)).setCell ⟨g5, 4, none⟩ (.bool false)) = V3 at b5 b10 hS11 hB ⊢
              have MK := Lib.hid (fun (X : World) (h : Below V3.heap.size V3 X) => (⟨⟨(b5.keep h).c1, (conv_row (hS11.keep h).row _ c11 rfl).trans (by rw [HX.out])⟩, h⟩ : (X.cell? ⟨g5, 1, none⟩ = some (.slice A11 xs.length c11) ∧ (convert 25 9 (.slice A11 xs.length c11)).run Try.prog X = .ok (.string SX) X) ∧ Below V3.heap.size V3 X))
              have hS := MK.out _ (Below.refl _ _).drew
              go_cut [129] from 26 to 145 (fun p wx => p = .bool false ∧ Below V3.heap.size V3 wx)
              case first =>
                go_region_held3 (fun X => (X.cell? ⟨g5, 1, none⟩ = some (.slice A11 xs.length c11) ∧ (convert 25 9 (.slice A11 xs.length c11)).run Try.prog X = .ok (.string SX) X) ∧ Below V3.heap.size V3 X)
                  (first
                    | with_reducible exact hS
                    | (refine MK.out _ ?_; (repeat' (first | (with_reducible exact hB0) | (with_reducible exact Below.refl _ _) | (with_reducible refine Below.setCell ?_ ?_ _) | (with_reducible refine Below.alloc ?_ ?_ _) | (with_reducible refine Below.drew ?_) | (simp; done) | omega | (simp; omega)))))
                  (first | fail)
                all_goals
                  go_wp2_with fail
                  go_meet
                  first
                    | exact ⟨rfl, by (repeat' (first | (with_reducible exact hB0) | (with_reducible exact Below.refl _ _) | (with_reducible refine Below.setCell ?_ ?_ _) | (with_reducible refine Below.alloc ?_ ?_ _) | (with_reducible refine Below.drew ?_) | (simp; done) | omega | (simp; omega)))⟩
                    | exact ⟨congrArg Value.bool (decide_eq_false (by omega)), by (repeat' (first | (with_reducible exact hB0) | (with_reducible exact Below.refl _ _) | (with_reducible refine Below.setCell ?_ ?_ _) | (with_reducible refine Below.alloc ?_ ?_ _) | (with_reducible refine Below.drew ?_) | (simp; done) | omega | (simp; omega)))⟩
              case rest =>
                obtain ⟨rfl, hb⟩ := hcut
                clear hS
                have cv := (MK.out _ hb).1.2
                clear MK
                replace b5 := b5.keep hb
                replace b10 := b10.keep hb
                replace hS11 := hS11.keep hb
                replace hB := below_step hB hb
                clear hb
                have q := b5
                obtain ⟨-, k0, k1, k2, k3, k4, kf⟩ := q
                have q := b10
                obtain ⟨-, j0, j1, j2⟩ := q
                go_wp2
                go_roundw
                case rel => exact Inv.mk w g5 L.length _ _ _ _ (k + 1) (s) (xs) (xs.length) (le) false A11 c11 (by omega) (by go_num) (by rw [HX.out]) rfl HO.out ⟨b5, hS11, pa5, hlo, hB⟩
                case measure => simp [intOf]; omega
          · as_aux_lemma =>
              subst hdn
              have hfin := actF_fine hd 3 m ys
              rw [hr] at G1 hfin
              have HO := Lib.hid (show okD ⟨s, xs, du, 0, true⟩ = true by rcases hfin with ⟨_, k1, _⟩ | ⟨_, k1, _⟩ | k1 | k1 <;> first | exact k1 | (simp at k1))
              clear hd hfin
              go_upto_region 9 with fail
              have b10 := Ob.new wr (.int .i64 3) (.int .i64 m) (.slice B ys.length cb)
              have hop := HO0.out _ hst.bel
              replace hst := hst.keep (one_ (.cells #[.int .i64 3, .int .i64 m, .slice B ys.length cb] 34))
              have hsl := hop.sl.alloc (.cells #[.int .i64 3, .int .i64 m, .slice B ys.length cb] 34)
              have hl10 : g5 < wr.heap.size := hl5
              clear p0 p1 p2 hop
              generalize wr.alloc (.cells #[.int .i64 3, .int .i64 m, .slice B ys.length cb] 34) = V1 at b10 hst hsl ⊢
              generalize wr.heap.size = g10 at b10 hl10 ⊢
              have q := hst.b5
              obtain ⟨-, k0, k1, k2, k3, k4, kf⟩ := q
              have q := b10
              obtain ⟨-, j0, j1, j2⟩ := q
              go_wp2_with fail
              refine (G1.out _ hst.s5 hsl).mono ?_
              rintro e W ⟨A11, c11, rfl, hS11, hs11, hb⟩
              dsimp only [dval] at hS11 hs11 ⊢
              have pa5 := hs11 g5 hst.b5.lt hst.p55
              clear k0 k1 k2 k3 k4 kf j0 j1 j2 hs11 G1
              replace hst := hst.keep hb
              replace b10 := b10.keep hb
              replace hsl := hsl.keep hb
              clear hb
              go_upto_region 10 with fail
              have b11 := Bx.new W (.int .i64 s) (.slice A11 xs.length c11) (.int .i64 du) (.int .i64 0) (.bool true)
              have hl11 : g10 < W.heap.size := b10.lt
              replace hst := hst.keep (one_ (.cells #[.int .i64 s, .slice A11 xs.length c11, .int .i64 du, .int .i64 0, .bool true] 27))
              replace b10 := b10.alloc (.cells #[.int .i64 s, .slice A11 xs.length c11, .int .i64 du, .int .i64 0, .bool true] 27)
              replace hsl := hsl.alloc (.cells #[.int .i64 s, .slice A11 xs.length c11, .int .i64 du, .int .i64 0, .bool true] 27)
              replace hS11 := hS11.alloc (.cells #[.int .i64 s, .slice A11 xs.length c11, .int .i64 du, .int .i64 0, .bool true] 27)
              generalize W.alloc (.cells #[.int .i64 s, .slice A11 xs.length c11, .int .i64 du, .int .i64 0, .bool true] 27) = V2 at b10 b11 hst hsl hS11 ⊢
              generalize W.heap.size = g11 at b11 hl11 ⊢
              have q := hst.b5
              obtain ⟨-, k0, k1, k2, k3, k4, kf⟩ := q
              have q := b10
              obtain ⟨-, j0, j1, j2⟩ := q
              have q := b11
              obtain ⟨-, i0, i1, i2, i3, i4, if_⟩ := q
              have hext : SX.extract 0 xs.length = SX := by rw [← HX.out, str_take, List.take_length]
              go_upto_region 21 with fail
              clear k0 k1 k2 k3 k4 kf j0 j1 j2 i0 i1 i2 i3 i4 if_
              obtain ⟨b5, -, -, hlo, hB⟩ := hst
              replace b5 := b5.store (.int .i64 s) (.slice A11 xs.length c11) (.int .i64 du) (.int .i64 0) (.bool true)
              replace hS11 := (Sl.setCell (Sl.setCell (Sl.setCell (Sl.setCell (Sl.setCell hS11 ⟨g5, 0, none⟩ (.int .i64 s) pa5) ⟨g5, 1, none⟩ (.slice A11 xs.length c11) pa5) ⟨g5, 2, none⟩ (.int .i64 du) pa5) ⟨g5, 3, none⟩ (.int .i64 0) pa5) ⟨g5, 4, none⟩ (.bool true) pa5)
              replace b10 := (Ob.far (Ob.far (Ob.far (Ob.far (Ob.far b10 ⟨g5, 0, none⟩ (.int .i64 s) (by show g10 ≠ g5; omega)) ⟨g5, 1, none⟩ (.slice A11 xs.length c11) (by show g10 ≠ g5; omega)) ⟨g5, 2, none⟩ (.int .i64 du) (by show g10 ≠ g5; omega)) ⟨g5, 3, none⟩ (.int .i64 0) (by show g10 ≠ g5; omega)) ⟨g5, 4, none⟩ (.bool true) (by show g10 ≠ g5; omega))
              replace hB : Below w.heap.size w (((((V2.setCell ⟨g5, 0, none⟩ (.int .i64 s)).setCell ⟨g5, 1, none⟩ (.slice A11 xs.length c11)).setCell ⟨g5, 2, none⟩ (.int .i64 du)).setCell ⟨g5, 3, none⟩ (.int .i64 0)).setCell ⟨g5, 4, none⟩ (.bool true)) := by (repeat' (first | (with_reducible exact hB) | (with_reducible exact Below.refl _ _) | (with_reducible refine Below.setCell ?_ ?_ _) | (with_reducible refine Below.alloc ?_ ?_ _) | (with_reducible refine Below.drew ?_) | (simp; done) | omega | (simp; omega)))
              clear hsl b11
              generalize (((((V2.setCell ⟨g5, 0, none⟩ (.int .i64 s)).setCell ⟨g5, 1, none⟩ (.slice A11 xs.length c11)).setCell ⟨g5, 2, none⟩ (.int .i64 du)).setCell ⟨g5, 3, none⟩ (.int .i64 0)).setCell ⟨g5, 4, none⟩ (.bool true)) = V3 at b5 b10 hS11 hB ⊢
              have MK := Lib.hid (fun (X : World) (h : Below V3.heap.size V3 X) => (⟨⟨(b5.keep h).c1, (conv_row (hS11.keep h).row _ c11 rfl).trans (by rw [HX.out])⟩, h⟩ : (X.cell? ⟨g5, 1, none⟩ = some (.slice A11 xs.length c11) ∧ (convert 25 9 (.slice A11 xs.length c11)).run Try.prog X = .ok (.string SX) X) ∧ Below V3.heap.size V3 X))
              have hS := MK.out _ (Below.refl _ _).drew
              go_cut [129] from 26 to 145 (fun p wx => p = .bool false ∧ Below V3.heap.size V3 wx)
              case first =>
                go_region_held3 (fun X => (X.cell? ⟨g5, 1, none⟩ = some (.slice A11 xs.length c11) ∧ (convert 25 9 (.slice A11 xs.length c11)).run Try.prog X = .ok (.string SX) X) ∧ Below V3.heap.size V3 X)
                  (first
                    | with_reducible exact hS
                    | (refine MK.out _ ?_; (repeat' (first | (with_reducible exact hB0) | (with_reducible exact Below.refl _ _) | (with_reducible refine Below.setCell ?_ ?_ _) | (with_reducible refine Below.alloc ?_ ?_ _) | (with_reducible refine Below.drew ?_) | (simp; done) | omega | (simp; omega)))))
                  (first | fail)
                all_goals
                  go_wp2_with fail
                  go_meet
                  first
                    | exact ⟨rfl, by (repeat' (first | (with_reducible exact hB0) | (with_reducible exact Below.refl _ _) | (with_reducible refine Below.setCell ?_ ?_ _) | (with_reducible refine Below.alloc ?_ ?_ _) | (with_reducible refine Below.drew ?_) | (simp; done) | omega | (simp; omega)))⟩
                    | exact ⟨congrArg Value.bool (decide_eq_false (by omega)), by (repeat' (first | (with_reducible exact hB0) | (with_reducible exact Below.refl _ _) | (with_reducible refine Below.setCell ?_ ?_ _) | (with_reducible refine Below.alloc ?_ ?_ _) | (with_reducible refine Below.drew ?_) | (simp; done) | omega | (simp; omega)))⟩
              case rest =>
                obtain ⟨rfl, hb⟩ := hcut
                clear hS
                have cv := (MK.out _ hb).1.2
                clear MK
                replace b5 := b5.keep hb
                replace b10 := b10.keep hb
                replace hS11 := hS11.keep hb
                replace hB := below_step hB hb
                clear hb
                have q := b5
                obtain ⟨-, k0, k1, k2, k3, k4, kf⟩ := q
                have q := b10
                obtain ⟨-, j0, j1, j2⟩ := q
                go_wp2
                go_roundw
                case rel => exact Inv.mk w g5 L.length _ _ _ _ (k + 1) (s) (xs) (du) (0) true A11 c11 (by omega) (by go_num) (by rw [HX.out]) rfl HO.out ⟨b5, hS11, pa5, hlo, hB⟩
                case measure => simp [intOf]; omega
        · as_aux_lemma =>
            subst hdn
            rw [cls_err hd rfl (by omega) m ys] at G1
            have HO := Lib.hid hd
            clear hd
            go_upto_region 9 with fail
            have b10 := Ob.new wr (.int .i64 3) (.int .i64 m) (.slice B ys.length cb)
            have hop := HO0.out _ hst.bel
            replace hst := hst.keep (one_ (.cells #[.int .i64 3, .int .i64 m, .slice B ys.length cb] 34))
            have hsl := hop.sl.alloc (.cells #[.int .i64 3, .int .i64 m, .slice B ys.length cb] 34)
            have hl10 : g5 < wr.heap.size := hl5
            clear p0 p1 p2 hop
            generalize wr.alloc (.cells #[.int .i64 3, .int .i64 m, .slice B ys.length cb] 34) = V1 at b10 hst hsl ⊢
            generalize wr.heap.size = g10 at b10 hl10 ⊢
            have q := hst.b5
            obtain ⟨-, k0, k1, k2, k3, k4, kf⟩ := q
            have q := b10
            obtain ⟨-, j0, j1, j2⟩ := q
            go_wp2_with fail
            refine (G1.out _ hst.s5 hsl).mono ?_
            rintro e W ⟨A11, c11, rfl, hS11, hs11, hb⟩
            dsimp only [dval] at hS11 hs11 ⊢
            have pa5 := hs11 g5 hst.b5.lt hst.p55
            clear k0 k1 k2 k3 k4 kf j0 j1 j2 hs11 G1
            replace hst := hst.keep hb
            replace b10 := b10.keep hb
            replace hsl := hsl.keep hb
            clear hb
            go_upto_region 10 with fail
            have b11 := Bx.new W (.int .i64 s) (.slice A11 xs.length c11) (.int .i64 du) (.int .i64 le) (.bool true)
            have hl11 : g10 < W.heap.size := b10.lt
            replace hst := hst.keep (one_ (.cells #[.int .i64 s, .slice A11 xs.length c11, .int .i64 du, .int .i64 le, .bool true] 27))
            replace b10 := b10.alloc (.cells #[.int .i64 s, .slice A11 xs.length c11, .int .i64 du, .int .i64 le, .bool true] 27)
            replace hsl := hsl.alloc (.cells #[.int .i64 s, .slice A11 xs.length c11, .int .i64 du, .int .i64 le, .bool true] 27)
            replace hS11 := hS11.alloc (.cells #[.int .i64 s, .slice A11 xs.length c11, .int .i64 du, .int .i64 le, .bool true] 27)
            generalize W.alloc (.cells #[.int .i64 s, .slice A11 xs.length c11, .int .i64 du, .int .i64 le, .bool true] 27) = V2 at b10 b11 hst hsl hS11 ⊢
            generalize W.heap.size = g11 at b11 hl11 ⊢
            have q := hst.b5
            obtain ⟨-, k0, k1, k2, k3, k4, kf⟩ := q
            have q := b10
            obtain ⟨-, j0, j1, j2⟩ := q
            have q := b11
            obtain ⟨-, i0, i1, i2, i3, i4, if_⟩ := q
            have hext : SX.extract 0 xs.length = SX := by rw [← HX.out, str_take, List.take_length]
            go_upto_region 21 with fail
            clear k0 k1 k2 k3 k4 kf j0 j1 j2 i0 i1 i2 i3 i4 if_
            obtain ⟨b5, -, -, hlo, hB⟩ := hst
            replace b5 := b5.store (.int .i64 s) (.slice A11 xs.length c11) (.int .i64 du) (.int .i64 le) (.bool true)
            replace hS11 := (Sl.setCell (Sl.setCell (Sl.setCell (Sl.setCell (Sl.setCell hS11 ⟨g5, 0, none⟩ (.int .i64 s) pa5) ⟨g5, 1, none⟩ (.slice A11 xs.length c11) pa5) ⟨g5, 2, none⟩ (.int .i64 du) pa5) ⟨g5, 3, none⟩ (.int .i64 le) pa5) ⟨g5, 4, none⟩ (.bool true) pa5)
            replace b10 := (Ob.far (Ob.far (Ob.far (Ob.far (Ob.far b10 ⟨g5, 0, none⟩ (.int .i64 s) (by show g10 ≠ g5; omega)) ⟨g5, 1, none⟩ (.slice A11 xs.length c11) (by show g10 ≠ g5; omega)) ⟨g5, 2, none⟩ (.int .i64 du) (by show g10 ≠ g5; omega)) ⟨g5, 3, none⟩ (.int .i64 le) (by show g10 ≠ g5; omega)) ⟨g5, 4, none⟩ (.bool true) (by show g10 ≠ g5; omega))
            replace hB : Below w.heap.size w (((((V2.setCell ⟨g5, 0, none⟩ (.int .i64 s)).setCell ⟨g5, 1, none⟩ (.slice A11 xs.length c11)).setCell ⟨g5, 2, none⟩ (.int .i64 du)).setCell ⟨g5, 3, none⟩ (.int .i64 le)).setCell ⟨g5, 4, none⟩ (.bool true)) := by (repeat' (first | (with_reducible exact hB) | (with_reducible exact Below.refl _ _) | (with_reducible refine Below.setCell ?_ ?_ _) | (with_reducible refine Below.alloc ?_ ?_ _) | (with_reducible refine Below.drew ?_) | (simp; done) | omega | (simp; omega)))
            clear hsl b11
            generalize (((((V2.setCell ⟨g5, 0, none⟩ (.int .i64 s)).setCell ⟨g5, 1, none⟩ (.slice A11 xs.length c11)).setCell ⟨g5, 2, none⟩ (.int .i64 du)).setCell ⟨g5, 3, none⟩ (.int .i64 le)).setCell ⟨g5, 4, none⟩ (.bool true)) = V3 at b5 b10 hS11 hB ⊢
            have MK := Lib.hid (fun (X : World) (h : Below V3.heap.size V3 X) => (⟨⟨(b5.keep h).c1, (conv_row (hS11.keep h).row _ c11 rfl).trans (by rw [HX.out])⟩, h⟩ : (X.cell? ⟨g5, 1, none⟩ = some (.slice A11 xs.length c11) ∧ (convert 25 9 (.slice A11 xs.length c11)).run Try.prog X = .ok (.string SX) X) ∧ Below V3.heap.size V3 X))
            have hS := MK.out _ (Below.refl _ _).drew
            go_cut [129] from 26 to 145 (fun p wx => p = .bool false ∧ Below V3.heap.size V3 wx)
            case first =>
              go_region_held3 (fun X => (X.cell? ⟨g5, 1, none⟩ = some (.slice A11 xs.length c11) ∧ (convert 25 9 (.slice A11 xs.length c11)).run Try.prog X = .ok (.string SX) X) ∧ Below V3.heap.size V3 X)
                (first
                  | with_reducible exact hS
                  | (refine MK.out _ ?_; (repeat' (first | (with_reducible exact hB0) | (with_reducible exact Below.refl _ _) | (with_reducible refine Below.setCell ?_ ?_ _) | (with_reducible refine Below.alloc ?_ ?_ _) | (with_reducible refine Below.drew ?_) | (simp; done) | omega | (simp; omega)))))
                (first | fail)
              all_goals
                go_wp2_with fail
                go_meet
                first
                  | exact ⟨rfl, by (repeat' (first | (with_reducible exact hB0) | (with_reducible exact Below.refl _ _) | (with_reducible refine Below.setCell ?_ ?_ _) | (with_reducible refine Below.alloc ?_ ?_ _) | (with_reducible refine Below.drew ?_) | (simp; done) | omega | (simp; omega)))⟩
                  | exact ⟨congrArg Value.bool (decide_eq_false (by omega)), by (repeat' (first | (with_reducible exact hB0) | (with_reducible exact Below.refl _ _) | (with_reducible refine Below.setCell ?_ ?_ _) | (with_reducible refine Below.alloc ?_ ?_ _) | (with_reducible refine Below.drew ?_) | (simp; done) | omega | (simp; omega)))⟩
            case rest =>
              obtain ⟨rfl, hb⟩ := hcut
              clear hS
              have cv := (MK.out _ hb).1.2
              clear MK
              replace b5 := b5.keep hb
              replace b10 := b10.keep hb
              replace hS11 := hS11.keep hb
              replace hB := below_step hB hb
              clear hb
              have q := b5
              obtain ⟨-, k0, k1, k2, k3, k4, kf⟩ := q
              have q := b10
              obtain ⟨-, j0, j1, j2⟩ := q
              go_wp2
              go_roundw
              case rel => exact Inv.mk w g5 L.length _ _ _ _ (k + 1) (s) (xs) (du) (le) true A11 c11 (by omega) (by go_num) (by rw [HX.out]) rfl HO.out ⟨b5, hS11, pa5, hlo, hB⟩
              case measure => simp [intOf]; omega
      by_cases hkd : kd = 4
      · subst hkd
        cases hdn : dn
        · rcases cls_sync hd hdn (.inr rfl) m ys with hr | hr
          · as_aux_lemma =>
              subst hdn
              have hfin := actF_fine hd 4 m ys
              rw [hr] at G1 hfin
              have HO := Lib.hid (show okD ⟨s, xs, xs.length, le, false⟩ = true by rcases hfin with ⟨_, k1, _⟩ | ⟨_, k1, _⟩ | k1 | k1 <;> first | exact k1 | (simp at k1))
              clear hd hfin
              go_upto_region 9 with fail
              have b10 := Ob.new wr (.int .i64 4) (.int .i64 m) (.slice B ys.length cb)
              have hop := HO0.out _ hst.bel
              replace hst := hst.keep (one_ (.cells #[.int .i64 4, .int .i64 m, .slice B ys.length cb] 34))
              have hsl := hop.sl.alloc (.cells #[.int .i64 4, .int .i64 m, .slice B ys.length cb] 34)
              have hl10 : g5 < wr.heap.size := hl5
              clear p0 p1 p2 hop
              generalize wr.alloc (.cells #[.int .i64 4, .int .i64 m, .slice B ys.length cb] 34) = V1 at b10 hst hsl ⊢
              generalize wr.heap.size = g10 at b10 hl10 ⊢
              have q := hst.b5
              obtain ⟨-, k0, k1, k2, k3, k4, kf⟩ := q
              have q := b10
              obtain ⟨-, j0, j1, j2⟩ := q
              go_wp2_with fail
              refine (G1.out _ hst.s5 hsl).mono ?_
              rintro e W ⟨A11, c11, rfl, hS11, hs11, hb⟩
              dsimp only [dval] at hS11 hs11 ⊢
              have pa5 := hs11 g5 hst.b5.lt hst.p55
              clear k0 k1 k2 k3 k4 kf j0 j1 j2 hs11 G1
              replace hst := hst.keep hb
              replace b10 := b10.keep hb
              replace hsl := hsl.keep hb
              clear hb
              go_upto_region 10 with fail
              have b11 := Bx.new W (.int .i64 s) (.slice A11 xs.length c11) (.int .i64 xs.length) (.int .i64 le) (.bool false)
              have hl11 : g10 < W.heap.size := b10.lt
              replace hst := hst.keep (one_ (.cells #[.int .i64 s, .slice A11 xs.length c11, .int .i64 xs.length, .int .i64 le, .bool false] 27))
              replace b10 := b10.alloc (.cells #[.int .i64 s, .slice A11 xs.length c11, .int .i64 xs.length, .int .i64 le, .bool false] 27)
              replace hsl := hsl.alloc (.cells #[.int .i64 s, .slice A11 xs.length c11, .int .i64 xs.length, .int .i64 le, .bool false] 27)
              replace hS11 := hS11.alloc (.cells #[.int .i64 s, .slice A11 xs.length c11, .int .i64 xs.length, .int .i64 le, .bool false] 27)
              generalize W.alloc (.cells #[.int .i64 s, .slice A11 xs.length c11, .int .i64 xs.length, .int .i64 le, .bool false] 27) = V2 at b10 b11 hst hsl hS11 ⊢
              generalize W.heap.size = g11 at b11 hl11 ⊢
              have q := hst.b5
              obtain ⟨-, k0, k1, k2, k3, k4, kf⟩ := q
              have q := b10
              obtain ⟨-, j0, j1, j2⟩ := q
              have q := b11
              obtain ⟨-, i0, i1, i2, i3, i4, if_⟩ := q
              have hext : SX.extract 0 xs.length = SX := by rw [← HX.out, str_take, List.take_length]
              go_upto_region 21 with fail
              clear k0 k1 k2 k3 k4 kf j0 j1 j2 i0 i1 i2 i3 i4 if_
              obtain ⟨b5, -, -, hlo, hB⟩ := hst
              replace b5 := b5.store (.int .i64 s) (.slice A11 xs.length c11) (.int .i64 xs.length) (.int .i64 le) (.bool false)
              replace hS11 := (Sl.setCell (Sl.setCell (Sl.setCell (Sl.setCell (Sl.setCell hS11 ⟨g5, 0, none⟩ (.int .i64 s) pa5) ⟨g5, 1, none⟩ (.slice A11 xs.length c11) pa5) ⟨g5, 2, none⟩ (.int .i64 xs.length) pa5) ⟨g5, 3, none⟩ (.int .i64 le) pa5) ⟨g5, 4, none⟩ (.bool false) pa5)
              replace b10 := (Ob.far (Ob.far (Ob.far (Ob.far (Ob.far b10 ⟨g5, 0, none⟩ (.int .i64 s) (by show g10 ≠ g5; omega)) ⟨g5, 1, none⟩ (.slice A11 xs.length c11) (by show g10 ≠ g5; omega)) ⟨g5, 2, none⟩ (.int .i64 xs.length) (by show g10 ≠ g5; omega)) ⟨g5, 3, none⟩ (.int .i64 le) (by show g10 ≠ g5; omega)) ⟨g5, 4, none⟩ (.bool false) (by show g10 ≠ g5; omega))
              replace hB : Below w.heap.size w (((((V2.setCell ⟨g5, 0, none⟩ (.int .i64 s)).setCell ⟨g5, 1, none⟩ (.slice A11 xs.length c11)).setCell ⟨g5, 2, none⟩ (.int .i64 xs.length)).setCell ⟨g5, 3, none⟩ (.int .i64 le)).setCell ⟨g5, 4, none⟩ (.bool false)) := by (repeat' (first | (with_reducible exact hB) | (with_reducible exact Below.refl _ _) | (with_reducible refine Below.setCell ?_ ?_ _) | (with_reducible refine Below.alloc ?_ ?_ _) | (with_reducible refine Below.drew ?_) | (simp; done) | omega | (simp; omega)))
              clear hsl b11
              generalize (((((V2.setCell ⟨g5, 0, none⟩ (.int .i64 s)).setCell ⟨g5, 1, none⟩ (.slice A11 xs.length c11)).setCell ⟨g5, 2, none⟩ (.int .i64 xs.length)).setCell ⟨g5, 3, none⟩ (.int .i64 le)).setCell ⟨g5, 4, none⟩ (.bool false)) = V3 at b5 b10 hS11 hB ⊢
              have MK := Lib.hid (fun (X : World) (h : Below V3.heap.size V3 X) => (⟨⟨(b5.keep h).c1, (conv_row (hS11.keep h).row _ c11 rfl).trans (by rw [HX.out])⟩, h⟩ : (X.cell? ⟨g5, 1, none⟩ = some (.slice A11 xs.length c11) ∧ (convert 25 9 (.slice A11 xs.length c11)).run Try.prog X = .ok (.string SX) X) ∧ Below V3.heap.size V3 X))
              have hS := MK.out _ (Below.refl _ _).drew
              go_cut [129] from 26 to 145 (fun p wx => p = .bool false ∧ Below V3.heap.size V3 wx)
              case first =>
                go_region_held3 (fun X => (X.cell? ⟨g5, 1, none⟩ = some (.slice A11 xs.length c11) ∧ (convert 25 9 (.slice A11 xs.length c11)).run Try.prog X = .ok (.string SX) X) ∧ Below V3.heap.size V3 X)
                  (first
                    | with_reducible exact hS
                    | (refine MK.out _ ?_; (repeat' (first | (with_reducible exact hB0) | (with_reducible exact Below.refl _ _) | (with_reducible refine Below.setCell ?_ ?_ _) | (with_reducible refine Below.alloc ?_ ?_ _) | (with_reducible refine Below.drew ?_) | (simp; done) | omega | (simp; omega)))))
                  (first | fail)
                all_goals
                  go_wp2_with fail
                  go_meet
                  first
                    | exact ⟨rfl, by (repeat' (first | (with_reducible exact hB0) | (with_reducible exact Below.refl _ _) | (with_reducible refine Below.setCell ?_ ?_ _) | (with_reducible refine Below.alloc ?_ ?_ _) | (with_reducible refine Below.drew ?_) | (simp; done) | omega | (simp; omega)))⟩
                    | exact ⟨congrArg Value.bool (decide_eq_false (by omega)), by (repeat' (first | (with_reducible exact hB0) | (with_reducible exact Below.refl _ _) | (with_reducible refine Below.setCell ?_ ?_ _) | (with_reducible refine Below.alloc ?_ ?_ _) | (with_reducible refine Below.drew ?_) | (simp; done) | omega | (simp; omega)))⟩
              case rest =>
                obtain ⟨rfl, hb⟩ := hcut
                clear hS
                have cv := (MK.out _ hb).1.2
                clear MK
                replace b5 := b5.keep hb
                replace b10 := b10.keep hb
                replace hS11 := hS11.keep hb
                replace hB := below_step hB hb
                clear hb
                have q := b5
                obtain ⟨-, k0, k1, k2, k3, k4, kf⟩ := q
                have q := b10
                obtain ⟨-, j0, j1, j2⟩ := q
                go_wp2
                go_roundw
                case rel => exact Inv.mk w g5 L.length _ _ _ _ (k + 1) (s) (xs) (xs.length) (le) false A11 c11 (by omega) (by go_num) (by rw [HX.out]) rfl HO.out ⟨b5, hS11, pa5, hlo, hB⟩
                case measure => simp [intOf]; omega
          · as_aux_lemma =>
              subst hdn
              have hfin := actF_fine hd 4 m ys
              rw [hr] at G1 hfin
              have HO := Lib.hid (show okD ⟨s, xs, du, 0, true⟩ = true by rcases hfin with ⟨_, k1, _⟩ | ⟨_, k1, _⟩ | k1 | k1 <;> first | exact k1 | (simp at k1))
              clear hd hfin
              go_upto_region 9 with fail
              have b10 := Ob.new wr (.int .i64 4) (.int .i64 m) (.slice B ys.length cb)
              have hop := HO0.out _ hst.bel
              replace hst := hst.keep (one_ (.cells #[.int .i64 4, .int .i64 m, .slice B ys.length cb] 34))
              have hsl := hop.sl.alloc (.cells #[.int .i64 4, .int .i64 m, .slice B ys.length cb] 34)
              have hl10 : g5 < wr.heap.size := hl5
              clear p0 p1 p2 hop
              generalize wr.alloc (.cells #[.int .i64 4, .int .i64 m, .slice B ys.length cb] 34) = V1 at b10 hst hsl ⊢
              generalize wr.heap.size = g10 at b10 hl10 ⊢
              have q := hst.b5
              obtain ⟨-, k0, k1, k2, k3, k4, kf⟩ := q
              have q := b10
              obtain ⟨-, j0, j1, j2⟩ := q
              go_wp2_with fail
              refine (G1.out _ hst.s5 hsl).mono ?_
              rintro e W ⟨A11, c11, rfl, hS11, hs11, hb⟩
              dsimp only [dval] at hS11 hs11 ⊢
              have pa5 := hs11 g5 hst.b5.lt hst.p55
              clear k0 k1 k2 k3 k4 kf j0 j1 j2 hs11 G1
              replace hst := hst.keep hb
              replace b10 := b10.keep hb
              replace hsl := hsl.keep hb
              clear hb
              go_upto_region 10 with fail
              have b11 := Bx.new W (.int .i64 s) (.slice A11 xs.length c11) (.int .i64 du) (.int .i64 0) (.bool true)
              have hl11 : g10 < W.heap.size := b10.lt
              replace hst := hst.keep (one_ (.cells #[.int .i64 s, .slice A11 xs.length c11, .int .i64 du, .int .i64 0, .bool true] 27))
              replace b10 := b10.alloc (.cells #[.int .i64 s, .slice A11 xs.length c11, .int .i64 du, .int .i64 0, .bool true] 27)
              replace hsl := hsl.alloc (.cells #[.int .i64 s, .slice A11 xs.length c11, .int .i64 du, .int .i64 0, .bool true] 27)
              replace hS11 := hS11.alloc (.cells #[.int .i64 s, .slice A11 xs.length c11, .int .i64 du, .int .i64 0, .bool true] 27)
              generalize W.alloc (.cells #[.int .i64 s, .slice A11 xs.length c11, .int .i64 du, .int .i64 0, .bool true] 27) = V2 at b10 b11 hst hsl hS11 ⊢
              generalize W.heap.size = g11 at b11 hl11 ⊢
              have q := hst.b5
              obtain ⟨-, k0, k1, k2, k3, k4, kf⟩ := q
              have q := b10
              obtain ⟨-, j0, j1, j2⟩ := q
              have q := b11
              obtain ⟨-, i0, i1, i2, i3, i4, if_⟩ := q
              have hext : SX.extract 0 xs.length = SX := by rw [← HX.out, str_take, List.take_length]
              go_upto_region 21 with fail
              clear k0 k1 k2 k3 k4 kf j0 j1 j2 i0 i1 i2 i3 i4 if_
              obtain ⟨b5, -, -, hlo, hB⟩ := hst
              replace b5 := b5.store (.int .i64 s) (.slice A11 xs.length c11) (.int .i64 du) (.int .i64 0) (.bool true)
              replace hS11 := (Sl.setCell (Sl.setCell (Sl.setCell (Sl.setCell (Sl.setCell hS11 ⟨g5, 0, none⟩ (.int .i64 s) pa5) ⟨g5, 1, none⟩ (.slice A11 xs.length c11) pa5) ⟨g5, 2, none⟩ (.int .i64 du) pa5) ⟨g5, 3, none⟩ (.int .i64 0) pa5) ⟨g5, 4, none⟩ (.bool true) pa5)
              replace b10 := (Ob.far (Ob.far (Ob.far (Ob.far (Ob.far b10 ⟨g5, 0, none⟩ (.int .i64 s) (by show g10 ≠ g5; omega)) ⟨g5, 1, none⟩ (.slice A11 xs.length c11) (by show g10 ≠ g5; omega)) ⟨g5, 2, none⟩ (.int .i64 du) (by show g10 ≠ g5; omega)) ⟨g5, 3, none⟩ (.int .i64 0) (by show g10 ≠ g5; omega)) ⟨g5, 4, none⟩ (.bool true) (by show g10 ≠ g5; omega))
              replace hB : Below w.heap.size w (((((V2.setCell ⟨g5, 0, none⟩ (.int .i64 s)).setCell ⟨g5, 1, none⟩ (.slice A11 xs.length c11)).setCell ⟨g5, 2, none⟩ (.int .i64 du)).setCell ⟨g5, 3, none⟩ (.int .i64 0)).setCell ⟨g5, 4, none⟩ (.bool true)) := by (repeat' (first | (with_reducible exact hB) | (with_reducible exact Below.refl _ _) | (with_reducible refine Below.setCell ?_ ?_ _) | (with_reducible refine Below.alloc ?_ ?_ _) | (with_reducible refine Below.drew ?_) | (simp; done) | omega | (simp; omega)))
              clear hsl b11
              generalize (((((V2.setCell ⟨g5, 0, none⟩ (.int .i64 s)).setCell ⟨g5, 1, none⟩ (.slice A11 xs.length c11)).setCell ⟨g5, 2, none⟩ (.int .i64 du)).setCell ⟨g5, 3, none⟩ (.int .i64 0)).setCell ⟨g5, 4, none⟩ (.bool true)) = V3 at b5 b10 hS11 hB ⊢
              have MK := Lib.hid (fun (X : World) (h : Below V3.heap.size V3 X) => (⟨⟨(b5.keep h).c1, (conv_row (hS11.keep h).row _ c11 rfl).trans (by rw [HX.out])⟩, h⟩ : (X.cell? ⟨g5, 1, none⟩ = some (.slice A11 xs.length c11) ∧ (convert 25 9 (.slice A11 xs.length c11)).run Try.prog X = .ok (.string SX) X) ∧ Below V3.heap.size V3 X))
              have hS := MK.out _ (Below.refl _ _).drew
              go_cut [129] from 26 to 145 (fun p wx => p = .bool false ∧ Below V3.heap.size V3 wx)
              case first =>
                go_region_held3 (fun X => (X.cell? ⟨g5, 1, none⟩ = some (.slice A11 xs.length c11) ∧ (convert 25 9 (.slice A11 xs.length c11)).run Try.prog X = .ok (.string SX) X) ∧ Below V3.heap.size V3 X)
                  (first
                    | with_reducible exact hS
                    | (refine MK.out _ ?_; (repeat' (first | (with_reducible exact hB0) | (with_reducible exact Below.refl _ _) | (with_reducible refine Below.setCell ?_ ?_ _) | (with_reducible refine Below.alloc ?_ ?_ _) | (with_reducible refine Below.drew ?_) | (simp; done) | omega | (simp; omega)))))
                  (first | fail)
                all_goals
                  go_wp2_with fail
                  go_meet
                  first
                    | exact ⟨rfl, by (repeat' (first | (with_reducible exact hB0) | (with_reducible exact Below.refl _ _) | (with_reducible refine Below.setCell ?_ ?_ _) | (with_reducible refine Below.alloc ?_ ?_ _) | (with_reducible refine Below.drew ?_) | (simp; done) | omega | (simp; omega)))⟩
                    | exact ⟨congrArg Value.bool (decide_eq_false (by omega)), by (repeat' (first | (with_reducible exact hB0) | (with_reducible exact Below.refl _ _) | (with_reducible refine Below.setCell ?_ ?_ _) | (with_reducible refine Below.alloc ?_ ?_ _) | (with_reducible refine Below.drew ?_) | (simp; done) | omega | (simp; omega)))⟩
              case rest =>
                obtain ⟨rfl, hb⟩ := hcut
                clear hS
                have cv := (MK.out _ hb).1.2
                clear MK
                replace b5 := b5.keep hb
                replace b10 := b10.keep hb
                replace hS11 := hS11.keep hb
                replace hB := below_step hB hb
                clear hb
                have q := b5
                obtain ⟨-, k0, k1, k2, k3, k4, kf⟩ := q
                have q := b10
                obtain ⟨-, j0, j1, j2⟩ := q
                go_wp2
                go_roundw
                case rel => exact Inv.mk w g5 L.length _ _ _ _ (k + 1) (s) (xs) (du) (0) true A11 c11 (by omega) (by go_num) (by rw [HX.out]) rfl HO.out ⟨b5, hS11, pa5, hlo, hB⟩
                case measure => simp [intOf]; omega
        · as_aux_lemma =>
            subst hdn
            rw [cls_err hd rfl (by omega) m ys] at G1
            have HO := Lib.hid hd
            clear hd
            go_upto_region 9 with fail
            have b10 := Ob.new wr (.int .i64 4) (.int .i64 m) (.slice B ys.length cb)
            have hop := HO0.out _ hst.bel
            replace hst := hst.keep (one_ (.cells #[.int .i64 4, .int .i64 m, .slice B ys.length cb] 34))
            have hsl := hop.sl.alloc (.cells #[.int .i64 4, .int .i64 m, .slice B ys.length cb] 34)
            have hl10 : g5 < wr.heap.size := hl5
            clear p0 p1 p2 hop
            generalize wr.alloc (.cells #[.int .i64 4, .int .i64 m, .slice B ys.length cb] 34) = V1 at b10 hst hsl ⊢
            generalize wr.heap.size = g10 at b10 hl10 ⊢
            have q := hst.b5
            obtain ⟨-, k0, k1, k2, k3, k4, kf⟩ := q
            have q := b10
            obtain ⟨-, j0, j1, j2⟩ := q
            go_wp2_with fail
            refine (G1.out _ hst.s5 hsl).mono ?_
            rintro e W ⟨A11, c11, rfl, hS11, hs11, hb⟩
            dsimp only [dval] at hS11 hs11 ⊢
            have pa5 := hs11 g5 hst.b5.lt hst.p55
            clear k0 k1 k2 k3 k4 kf j0 j1 j2 hs11 G1
            replace hst := hst.keep hb
            replace b10 := b10.keep hb
            replace hsl := hsl.keep hb
            clear hb
            go_upto_region 10 with fail
            have b11 := Bx.new W (.int .i64 s) (.slice A11 xs.length c11) (.int .i64 du) (.int .i64 le) (.bool true)
            have hl11 : g10 < W.heap.size := b10.lt
            replace hst := hst.keep (one_ (.cells #[.int .i64 s, .slice A11 xs.length c11, .int .i64 du, .int .i64 le, .bool true] 27))
            replace b10 := b10.alloc (.cells #[.int .i64 s, .slice A11 xs.length c11, .int .i64 du, .int .i64 le, .bool true] 27)
            replace hsl := hsl.alloc (.cells #[.int .i64 s, .slice A11 xs.length c11, .int .i64 du, .int .i64 le, .bool true] 27)
            replace hS11 := hS11.alloc (.cells #[.int .i64 s, .slice A11 xs.length c11, .int .i64 du, .int .i64 le, .bool true] 27)
            generalize W.alloc (.cells #[.int .i64 s, .slice A11 xs.length c11, .int .i64 du, .int .i64 le, .bool true] 27) = V2 at b10 b11 hst hsl hS11 ⊢
            generalize W.heap.size = g11 at b11 hl11 ⊢
            have q := hst.b5
            obtain ⟨-, k0, k1, k2, k3, k4, kf⟩ := q
            have q := b10
            obtain ⟨-, j0, j1, j2⟩ := q
            have q := b11
            obtain ⟨-, i0, i1, i2, i3, i4, if_⟩ := q
            have hext : SX.extract 0 xs.length = SX := by rw [← HX.out, str_take, List.take_length]
            go_upto_region 21 with fail
            clear k0 k1 k2 k3 k4 kf j0 j1 j2 i0 i1 i2 i3 i4 if_
            obtain ⟨b5, -, -, hlo, hB⟩ := hst
            replace b5 := b5.store (.int .i64 s) (.slice A11 xs.length c11) (.int .i64 du) (.int .i64 le) (.bool true)
            replace hS11 := (Sl.setCell (Sl.setCell (Sl.setCell (Sl.setCell (Sl.setCell hS11 ⟨g5, 0, none⟩ (.int .i64 s) pa5) ⟨g5, 1, none⟩ (.slice A11 xs.length c11) pa5) ⟨g5, 2, none⟩ (.int .i64 du) pa5) ⟨g5, 3, none⟩ (.int .i64 le) pa5) ⟨g5, 4, none⟩ (.bool true) pa5)
            replace b10 := (Ob.far (Ob.far (Ob.far (Ob.far (Ob.far b10 ⟨g5, 0, none⟩ (.int .i64 s) (by show g10 ≠ g5; omega)) ⟨g5, 1, none⟩ (.slice A11 xs.length c11) (by show g10 ≠ g5; omega)) ⟨g5, 2, none⟩ (.int .i64 du) (by show g10 ≠ g5; omega)) ⟨g5, 3, none⟩ (.int .i64 le) (by show g10 ≠ g5; omega)) ⟨g5, 4, none⟩ (.bool true) (by show g10 ≠ g5; omega))
            replace hB : Below w.heap.size w (((((V2.setCell ⟨g5, 0, none⟩ (.int .i64 s)).setCell ⟨g5, 1, none⟩ (.slice A11 xs.length c11)).setCell ⟨g5, 2, none⟩ (.int .i64 du)).setCell ⟨g5, 3, none⟩ (.int .i64 le)).setCell ⟨g5, 4, none⟩ (.bool true)) := by (repeat' (first | (with_reducible exact hB) | (with_reducible exact Below.refl _ _) | (with_reducible refine Below.setCell ?_ ?_ _) | (with_reducible refine Below.alloc ?_ ?_ _) | (with_reducible refine Below.drew ?_) | (simp; done) | omega | (simp; omega)))
            clear hsl b11
            generalize (((((V2.setCell ⟨g5, 0, none⟩ (.int .i64 s)).setCell ⟨g5, 1, none⟩ (.slice A11 xs.length c11)).setCell ⟨g5, 2, none⟩ (.int .i64 du)).setCell ⟨g5, 3, none⟩ (.int .i64 le)).setCell ⟨g5, 4, none⟩ (.bool true)) = V3 at b5 b10 hS11 hB ⊢
            have MK := Lib.hid (fun (X : World) (h : Below V3.heap.size V3 X) => (⟨⟨(b5.keep h).c1, (conv_row (hS11.keep h).row _ c11 rfl).trans (by rw [HX.out])⟩, h⟩ : (X.cell? ⟨g5, 1, none⟩ = some (.slice A11 xs.length c11) ∧ (convert 25 9 (.slice A11 xs.length c11)).run Try.prog X = .ok (.string SX) X) ∧ Below V3.heap.size V3 X))
            have hS := MK.out _ (Below.refl _ _).drew
            go_cut [129] from 26 to 145 (fun p wx => p = .bool false ∧ Below V3.heap.size V3 wx)
            case first =>
              go_region_held3 (fun X => (X.cell? ⟨g5, 1, none⟩ = some (.slice A11 xs.length c11) ∧ (convert 25 9 (.slice A11 xs.length c11)).run Try.prog X = .ok (.string SX) X) ∧ Below V3.heap.size V3 X)
                (first
                  | with_reducible exact hS
                  | (refine MK.out _ ?_; (repeat' (first | (with_reducible exact hB0) | (with_reducible exact Below.refl _ _) | (with_reducible refine Below.setCell ?_ ?_ _) | (with_reducible refine Below.alloc ?_ ?_ _) | (with_reducible refine Below.drew ?_) | (simp; done) | omega | (simp; omega)))))
                (first | fail)
              all_goals
                go_wp2_with fail
                go_meet
                first
                  | exact ⟨rfl, by (repeat' (first | (with_reducible exact hB0) | (with_reducible exact Below.refl _ _) | (with_reducible refine Below.setCell ?_ ?_ _) | (with_reducible refine Below.alloc ?_ ?_ _) | (with_reducible refine Below.drew ?_) | (simp; done) | omega | (simp; omega)))⟩
                  | exact ⟨congrArg Value.bool (decide_eq_false (by omega)), by (repeat' (first | (with_reducible exact hB0) | (with_reducible exact Below.refl _ _) | (with_reducible refine Below.setCell ?_ ?_ _) | (with_reducible refine Below.alloc ?_ ?_ _) | (with_reducible refine Below.drew ?_) | (simp; done) | omega | (simp; omega)))⟩
            case rest =>
              obtain ⟨rfl, hb⟩ := hcut
              clear hS
              have cv := (MK.out _ hb).1.2
              clear MK
              replace b5 := b5.keep hb
              replace b10 := b10.keep hb
              replace hS11 := hS11.keep hb
              replace hB := below_step hB hb
              clear hb
              have q := b5
              obtain ⟨-, k0, k1, k2, k3, k4, kf⟩ := q
              have q := b10
              obtain ⟨-, j0, j1, j2⟩ := q
              go_wp2
              go_roundw
              case rel => exact Inv.mk w g5 L.length _ _ _ _ (k + 1) (s) (xs) (du) (le) true A11 c11 (by omega) (by go_num) (by rw [HX.out]) rfl HO.out ⟨b5, hS11, pa5, hlo, hB⟩
              case measure => simp [intOf]; omega
      by_cases hkd : kd = 5
      · subst hkd
        cases hdn : dn
        · rcases cls_trunc hd hdn m ys with hr | ⟨n, rfl, hn, hr⟩
          · as_aux_lemma =>
              subst hdn
              rw [hr] at G1
              clear hd
              go_upto_region 9 with fail
              have b10 := Ob.new wr (.int .i64 5) (.int .i64 m) (.slice B ys.length cb)
              have hop := HO0.out _ hst.bel
              replace hst := hst.keep (one_ (.cells #[.int .i64 5, .int .i64 m, .slice B ys.length cb] 34))
              have hsl := hop.sl.alloc (.cells #[.int .i64 5, .int .i64 m, .slice B ys.length cb] 34)
              have hl10 : g5 < wr.heap.size := hl5
              clear p0 p1 p2 hop
              generalize wr.alloc (.cells #[.int .i64 5, .int .i64 m, .slice B ys.length cb] 34) = V1 at b10 hst hsl ⊢
              generalize wr.heap.size = g10 at b10 hl10 ⊢
              have q := hst.b5
              obtain ⟨-, k0, k1, k2, k3, k4, kf⟩ := q
              have q := b10
              obtain ⟨-, j0, j1, j2⟩ := q
              go_wp2_with fail
              refine (G1.out _ hst.s5 hsl).mono ?_
              rintro e W ⟨A11, c11, rfl, hS11, hs11, hb⟩
              dsimp only [dval, dz, List.length_nil] at hS11 hs11 ⊢
              have pa5 := hs11 g5 hst.b5.lt hst.p55
              clear k0 k1 k2 k3 k4 kf j0 j1 j2 hs11 G1
              replace hst := hst.keep hb
              replace b10 := b10.keep hb
              replace hsl := hsl.keep hb
              clear hb
              go_upto_region 10 with fail
              have b11 := Bx.new W (.int .i64 0) (.slice A11 0 c11) (.int .i64 0) (.int .i64 0) (.bool false)
              have hl11 : g10 < W.heap.size := b10.lt
              replace hst := hst.keep (one_ (.cells #[.int .i64 0, .slice A11 0 c11, .int .i64 0, .int .i64 0, .bool false] 27))
              replace b10 := b10.alloc (.cells #[.int .i64 0, .slice A11 0 c11, .int .i64 0, .int .i64 0, .bool false] 27)
              replace hsl := hsl.alloc (.cells #[.int .i64 0, .slice A11 0 c11, .int .i64 0, .int .i64 0, .bool false] 27)
              replace hS11 := hS11.alloc (.cells #[.int .i64 0, .slice A11 0 c11, .int .i64 0, .int .i64 0, .bool false] 27)
              generalize W.alloc (.cells #[.int .i64 0, .slice A11 0 c11, .int .i64 0, .int .i64 0, .bool false] 27) = V2 at b10 b11 hst hsl hS11 ⊢
              generalize W.heap.size = g11 at b11 hl11 ⊢
              go_wp2
              go_roundw
              case rel => exact Inv.mk w g5 L.length _ _ _ _ (k + 1) s xs du le _ A5 c5 (by omega) (by go_num) (by rw [HX.out]) rfl HD.out hst
              case measure => simp [intOf]; omega
          · by_cases hmd : (n : Int) < du
            · rw [show min du (n : Int) = n by omega] at hr
              as_aux_lemma =>
                subst hdn
                have hfin := actF_fine hd 5 (n : Int) ys
                rw [hr] at G1 hfin
                generalize hxs2 : xs.take n = xs2 at G1 hfin
                have HXS := Lib.hid hxs2
                clear hxs2
                have HO := Lib.hid (show okD ⟨s, xs2, n, le, false⟩ = true by rcases hfin with ⟨_, k1, _⟩ | ⟨_, k1, _⟩ | k1 | k1 <;> first | exact k1 | (simp at k1))
                clear hd hfin
                go_upto_region 9 with fail
                have b10 := Ob.new wr (.int .i64 5) (.int .i64 n) (.slice B ys.length cb)
                have hop := HO0.out _ hst.bel
                replace hst := hst.keep (one_ (.cells #[.int .i64 5, .int .i64 n, .slice B ys.length cb] 34))
                have hsl := hop.sl.alloc (.cells #[.int .i64 5, .int .i64 n, .slice B ys.length cb] 34)
                have hl10 : g5 < wr.heap.size := hl5
                clear p0 p1 p2 hop
                generalize wr.alloc (.cells #[.int .i64 5, .int .i64 n, .slice B ys.length cb] 34) = V1 at b10 hst hsl ⊢
                generalize wr.heap.size = g10 at b10 hl10 ⊢
                have q := hst.b5
                obtain ⟨-, k0, k1, k2, k3, k4, kf⟩ := q
                have q := b10
                obtain ⟨-, j0, j1, j2⟩ := q
                go_wp2_with fail
                refine (G1.out _ hst.s5 hsl).mono ?_
                rintro e W ⟨A11, c11, rfl, hS11, hs11, hb⟩
                dsimp only [dval] at hS11 hs11 ⊢
                have pa5 := hs11 g5 hst.b5.lt hst.p55
                clear k0 k1 k2 k3 k4 kf j0 j1 j2 hs11 G1
                replace hst := hst.keep hb
                replace b10 := b10.keep hb
                replace hsl := hsl.keep hb
                clear hb
                go_upto_region 10 with fail
                have b11 := Bx.new W (.int .i64 s) (.slice A11 xs2.length c11) (.int .i64 n) (.int .i64 le) (.bool false)
                have hl11 : g10 < W.heap.size := b10.lt
                replace hst := hst.keep (one_ (.cells #[.int .i64 s, .slice A11 xs2.length c11, .int .i64 n, .int .i64 le, .bool false] 27))
                replace b10 := b10.alloc (.cells #[.int .i64 s, .slice A11 xs2.length c11, .int .i64 n, .int .i64 le, .bool false] 27)
                replace hsl := hsl.alloc (.cells #[.int .i64 s, .slice A11 xs2.length c11, .int .i64 n, .int .i64 le, .bool false] 27)
                replace hS11 := hS11.alloc (.cells #[.int .i64 s, .slice A11 xs2.length c11, .int .i64 n, .int .i64 le, .bool false] 27)
                generalize W.alloc (.cells #[.int .i64 s, .slice A11 xs2.length c11, .int .i64 n, .int .i64 le, .bool false] 27) = V2 at b10 b11 hst hsl hS11 ⊢
                generalize W.heap.size = g11 at b11 hl11 ⊢
                have q := hst.b5
                obtain ⟨-, k0, k1, k2, k3, k4, kf⟩ := q
                have q := b10
                obtain ⟨-, j0, j1, j2⟩ := q
                have q := b11
                obtain ⟨-, i0, i1, i2, i3, i4, if_⟩ := q
                have hsz := str_size xs2
                have hext1 : SX.extract 0 n = strOfNums xs2 := by rw [← HX.out, ← HXS.out]; exact str_take xs n
                have hext0 : (strOfNums xs2).extract 0 xs2.length = strOfNums xs2 := by rw [str_take, List.take_length]
                generalize hS2 : strOfNums xs2 = S2 at hsz hext0 hext1
                have HX2 := Lib.hid hS2
                clear hS2
                have hl1 : xs2.length = n := by rw [← HXS.out, List.length_take]; omega
                have hl2 : n ≤ xs2.length := by omega
                have hl3 : decide (xs2.length < n) = false := by simp; omega
                have hl5 : n ≤ xs.length := hn
                clear hl1
                go_upto_region 21 with fail
                clear k0 k1 k2 k3 k4 kf j0 j1 j2 i0 i1 i2 i3 i4 if_
                obtain ⟨b5, -, -, hlo, hB⟩ := hst
                replace b5 := b5.store (.int .i64 s) (.slice A11 xs2.length c11) (.int .i64 n) (.int .i64 le) (.bool false)
                replace hS11 := (Sl.setCell (Sl.setCell (Sl.setCell (Sl.setCell (Sl.setCell hS11 ⟨g5, 0, none⟩ (.int .i64 s) pa5) ⟨g5, 1, none⟩ (.slice A11 xs2.length c11) pa5) ⟨g5, 2, none⟩ (.int .i64 n) pa5) ⟨g5, 3, none⟩ (.int .i64 le) pa5) ⟨g5, 4, none⟩ (.bool false) pa5)
                replace b10 := (Ob.far (Ob.far (Ob.far (Ob.far (Ob.far b10 ⟨g5, 0, none⟩ (.int .i64 s) (by show g10 ≠ g5; omega)) ⟨g5, 1, none⟩ (.slice A11 xs2.length c11) (by show g10 ≠ g5; omega)) ⟨g5, 2, none⟩ (.int .i64 n) (by show g10 ≠ g5; omega)) ⟨g5, 3, none⟩ (.int .i64 le) (by show g10 ≠ g5; omega)) ⟨g5, 4, none⟩ (.bool false) (by show g10 ≠ g5; omega))
                replace hB : Below w.heap.size w (((((V2.setCell ⟨g5, 0, none⟩ (.int .i64 s)).setCell ⟨g5, 1, none⟩ (.slice A11 xs2.length c11)).setCell ⟨g5, 2, none⟩ (.int .i64 n)).setCell ⟨g5, 3, none⟩ (.int .i64 le)).setCell ⟨g5, 4, none⟩ (.bool false)) := by (repeat' (first | (with_reducible exact hB) | (with_reducible exact Below.refl _ _) | (with_reducible refine Below.setCell ?_ ?_ _) | (with_reducible refine Below.alloc ?_ ?_ _) | (with_reducible refine Below.drew ?_) | (simp; done) | omega | (simp; omega)))
                clear hsl b11
                generalize (((((V2.setCell ⟨g5, 0, none⟩ (.int .i64 s)).setCell ⟨g5, 1, none⟩ (.slice A11 xs2.length c11)).setCell ⟨g5, 2, none⟩ (.int .i64 n)).setCell ⟨g5, 3, none⟩ (.int .i64 le)).setCell ⟨g5, 4, none⟩ (.bool false)) = V3 at b5 b10 hS11 hB ⊢
                have MK := Lib.hid (fun (X : World) (h : Below V3.heap.size V3 X) => (⟨⟨(b5.keep h).c1, (conv_row (hS11.keep h).row _ c11 rfl).trans (by rw [HX2.out])⟩, h⟩ : (X.cell? ⟨g5, 1, none⟩ = some (.slice A11 xs2.length c11) ∧ (convert 25 9 (.slice A11 xs2.length c11)).run Try.prog X = .ok (.string S2) X) ∧ Below V3.heap.size V3 X))
                have hS := MK.out _ (Below.refl _ _).drew
                go_cut [129] from 26 to 145 (fun p wx => p = .bool false ∧ Below V3.heap.size V3 wx)
                case first =>
                  go_region_held3 (fun X => (X.cell? ⟨g5, 1, none⟩ = some (.slice A11 xs2.length c11) ∧ (convert 25 9 (.slice A11 xs2.length c11)).run Try.prog X = .ok (.string S2) X) ∧ Below V3.heap.size V3 X)
                    (first
                      | with_reducible exact hS
                      | (refine MK.out _ ?_; (repeat' (first | (with_reducible exact hB0) | (with_reducible exact Below.refl _ _) | (with_reducible refine Below.setCell ?_ ?_ _) | (with_reducible refine Below.alloc ?_ ?_ _) | (with_reducible refine Below.drew ?_) | (simp; done) | omega | (simp; omega)))))
                    (first | fail)
                  all_goals
                    go_wp2_with fail
                    go_meet
                    first
                      | exact ⟨rfl, by (repeat' (first | (with_reducible exact hB0) | (with_reducible exact Below.refl _ _) | (with_reducible refine Below.setCell ?_ ?_ _) | (with_reducible refine Below.alloc ?_ ?_ _) | (with_reducible refine Below.drew ?_) | (simp; done) | omega | (simp; omega)))⟩
                      | exact ⟨congrArg Value.bool (decide_eq_false (by omega)), by (repeat' (first | (with_reducible exact hB0) | (with_reducible exact Below.refl _ _) | (with_reducible refine Below.setCell ?_ ?_ _) | (with_reducible refine Below.alloc ?_ ?_ _) | (with_reducible refine Below.drew ?_) | (simp; done) | omega | (simp; omega)))⟩
                case rest =>
                  obtain ⟨rfl, hb⟩ := hcut
                  clear hS
                  have cv := (MK.out _ hb).1.2
                  clear MK
                  replace b5 := b5.keep hb
                  replace b10 := b10.keep hb
                  replace hS11 := hS11.keep hb
                  replace hB := below_step hB hb
                  clear hb
                  have q := b5
                  obtain ⟨-, k0, k1, k2, k3, k4, kf⟩ := q
                  have q := b10
                  obtain ⟨-, j0, j1, j2⟩ := q
                  go_wp2
                  go_roundw
                  case rel => exact Inv.mk w g5 L.length _ _ _ _ (k + 1) (s) (xs2) (n) (le) false A11 c11 (by omega) (by go_num) (by rw [HX2.out]) rfl HO.out ⟨b5, hS11, pa5, hlo, hB⟩
                  case measure => simp [intOf]; omega
            · rw [show min du (n : Int) = du by omega] at hr
              as_aux_lemma =>
                subst hdn
                have hfin := actF_fine hd 5 (n : Int) ys
                rw [hr] at G1 hfin
                generalize hxs2 : xs.take n = xs2 at G1 hfin
                have HXS := Lib.hid hxs2
                clear hxs2
                have HO := Lib.hid (show okD ⟨s, xs2, du, le, false⟩ = true by rcases hfin with ⟨_, k1, _⟩ | ⟨_, k1, _⟩ | k1 | k1 <;> first | exact k1 | (simp at k1))
                clear hd hfin
                go_upto_region 9 with fail
                have b10 := Ob.new wr (.int .i64 5) (.int .i64 n) (.slice B ys.length cb)
                have hop := HO0.out _ hst.bel
                replace hst := hst.keep (one_ (.cells #[.int .i64 5, .int .i64 n, .slice B ys.length cb] 34))
                have hsl := hop.sl.alloc (.cells #[.int .i64 5, .int .i64 n, .slice B ys.length cb] 34)
                have hl10 : g5 < wr.heap.size := hl5
                clear p0 p1 p2 hop
                generalize wr.alloc (.cells #[.int .i64 5, .int .i64 n, .slice B ys.length cb] 34) = V1 at b10 hst hsl ⊢
                generalize wr.heap.size = g10 at b10 hl10 ⊢
                have q := hst.b5
                obtain ⟨-, k0, k1, k2, k3, k4, kf⟩ := q
                have q := b10
                obtain ⟨-, j0, j1, j2⟩ := q
                go_wp2_with fail
                refine (G1.out _ hst.s5 hsl).mono ?_
                rintro e W ⟨A11, c11, rfl, hS11, hs11, hb⟩
                dsimp only [dval] at hS11 hs11 ⊢
                have pa5 := hs11 g5 hst.b5.lt hst.p55
                clear k0 k1 k2 k3 k4 kf j0 j1 j2 hs11 G1
                replace hst := hst.keep hb
                replace b10 := b10.keep hb
                replace hsl := hsl.keep hb
                clear hb
                go_upto_region 10 with fail
                have b11 := Bx.new W (.int .i64 s) (.slice A11 xs2.length c11) (.int .i64 du) (.int .i64 le) (.bool false)
                have hl11 : g10 < W.heap.size := b10.lt
                replace hst := hst.keep (one_ (.cells #[.int .i64 s, .slice A11 xs2.length c11, .int .i64 du, .int .i64 le, .bool false] 27))
                replace b10 := b10.alloc (.cells #[.int .i64 s, .slice A11 xs2.length c11, .int .i64 du, .int .i64 le, .bool false] 27)
                replace hsl := hsl.alloc (.cells #[.int .i64 s, .slice A11 xs2.length c11, .int .i64 du, .int .i64 le, .bool false] 27)
                replace hS11 := hS11.alloc (.cells #[.int .i64 s, .slice A11 xs2.length c11, .int .i64 du, .int .i64 le, .bool false] 27)
                generalize W.alloc (.cells #[.int .i64 s, .slice A11 xs2.length c11, .int .i64 du, .int .i64 le, .bool false] 27) = V2 at b10 b11 hst hsl hS11 ⊢
                generalize W.heap.size = g11 at b11 hl11 ⊢
                have q := hst.b5
                obtain ⟨-, k0, k1, k2, k3, k4, kf⟩ := q
                have q := b10
                obtain ⟨-, j0, j1, j2⟩ := q
                have q := b11
                obtain ⟨-, i0, i1, i2, i3, i4, if_⟩ := q
                have hsz := str_size xs2
                have hext1 : SX.extract 0 n = strOfNums xs2 := by rw [← HX.out, ← HXS.out]; exact str_take xs n
                have hext0 : (strOfNums xs2).extract 0 xs2.length = strOfNums xs2 := by rw [str_take, List.take_length]
                generalize hS2 : strOfNums xs2 = S2 at hsz hext0 hext1
                have HX2 := Lib.hid hS2
                clear hS2
                have hl1 : xs2.length = n := by rw [← HXS.out, List.length_take]; omega
                have hl2 : n ≤ xs2.length := by omega
                have hl3 : decide (xs2.length < n) = false := by simp; omega
                have hl5 : n ≤ xs.length := hn
                clear hl1
                go_upto_region 21 with fail
                clear k0 k1 k2 k3 k4 kf j0 j1 j2 i0 i1 i2 i3 i4 if_
                obtain ⟨b5, -, -, hlo, hB⟩ := hst
                replace b5 := b5.store (.int .i64 s) (.slice A11 xs2.length c11) (.int .i64 du) (.int .i64 le) (.bool false)
                replace hS11 := (Sl.setCell (Sl.setCell (Sl.setCell (Sl.setCell (Sl.setCell hS11 ⟨g5, 0, none⟩ (.int .i64 s) pa5) ⟨g5, 1, none⟩ (.slice A11 xs2.length c11) pa5) ⟨g5, 2, none⟩ (.int .i64 du) pa5) ⟨g5, 3, none⟩ (.int .i64 le) pa5) ⟨g5, 4, none⟩ (.bool false) pa5)
                replace b10 := (Ob.far (Ob.far (Ob.far (Ob.far (Ob.far b10 ⟨g5, 0, none⟩ (.int .i64 s) (by show g10 ≠ g5; omega)) ⟨g5, 1, none⟩ (.slice A11 xs2.length c11) (by show g10 ≠ g5; omega)) ⟨g5, 2, none⟩ (.int .i64 du) (by show g10 ≠ g5; omega)) ⟨g5, 3, none⟩ (.int .i64 le) (by show g10 ≠ g5; omega)) ⟨g5, 4, none⟩ (.bool false) (by show g10 ≠ g5; omega))
                replace hB : Below w.heap.size w (((((V2.setCell ⟨g5, 0, none⟩ (.int .i64 s)).setCell ⟨g5, 1, none⟩ (.slice A11 xs2.length c11)).setCell ⟨g5, 2, none⟩ (.int .i64 du)).setCell ⟨g5, 3, none⟩ (.int .i64 le)).setCell ⟨g5, 4, none⟩ (.bool false)) := by (repeat' (first | (with_reducible exact hB) | (with_reducible exact Below.refl _ _) | (with_reducible refine Below.setCell ?_ ?_ _) | (with_reducible refine Below.alloc ?_ ?_ _) | (with_reducible refine Below.drew ?_) | (simp; done) | omega | (simp; omega)))
                clear hsl b11
                generalize (((((V2.setCell ⟨g5, 0, none⟩ (.int .i64 s)).setCell ⟨g5, 1, none⟩ (.slice A11 xs2.length c11)).setCell ⟨g5, 2, none⟩ (.int .i64 du)).setCell ⟨g5, 3, none⟩ (.int .i64 le)).setCell ⟨g5, 4, none⟩ (.bool false)) = V3 at b5 b10 hS11 hB ⊢
                have MK := Lib.hid (fun (X : World) (h : Below V3.heap.size V3 X) => (⟨⟨(b5.keep h).c1, (conv_row (hS11.keep h).row _ c11 rfl).trans (by rw [HX2.out])⟩, h⟩ : (X.cell? ⟨g5, 1, none⟩ = some (.slice A11 xs2.length c11) ∧ (convert 25 9 (.slice A11 xs2.length c11)).run Try.prog X = .ok (.string S2) X) ∧ Below V3.heap.size V3 X))
                have hS := MK.out _ (Below.refl _ _).drew
                go_cut [129] from 26 to 145 (fun p wx => p = .bool false ∧ Below V3.heap.size V3 wx)
                case first =>
                  go_region_held3 (fun X => (X.cell? ⟨g5, 1, none⟩ = some (.slice A11 xs2.length c11) ∧ (convert 25 9 (.slice A11 xs2.length c11)).run Try.prog X = .ok (.string S2) X) ∧ Below V3.heap.size V3 X)
                    (first
                      | with_reducible exact hS
                      | (refine MK.out _ ?_; (repeat' (first | (with_reducible exact hB0) | (with_reducible exact Below.refl _ _) | (with_reducible refine Below.setCell ?_ ?_ _) | (with_reducible refine Below.alloc ?_ ?_ _) | (with_reducible refine Below.drew ?_) | (simp; done) | omega | (simp; omega)))))
                    (first | fail)
                  all_goals
                    go_wp2_with fail
                    go_meet
                    first
                      | exact ⟨rfl, by (repeat' (first | (with_reducible exact hB0) | (with_reducible exact Below.refl _ _) | (with_reducible refine Below.setCell ?_ ?_ _) | (with_reducible refine Below.alloc ?_ ?_ _) | (with_reducible refine Below.drew ?_) | (simp; done) | omega | (simp; omega)))⟩
                      | exact ⟨congrArg Value.bool (decide_eq_false (by omega)), by (repeat' (first | (with_reducible exact hB0) | (with_reducible exact Below.refl _ _) | (with_reducible refine Below.setCell ?_ ?_ _) | (with_reducible refine Below.alloc ?_ ?_ _) | (with_reducible refine Below.drew ?_) | (simp; done) | omega | (simp; omega)))⟩
                case rest =>
                  obtain ⟨rfl, hb⟩ := hcut
                  clear hS
                  have cv := (MK.out _ hb).1.2
                  clear MK
                  replace b5 := b5.keep hb
                  replace b10 := b10.keep hb
                  replace hS11 := hS11.keep hb
                  replace hB := below_step hB hb
                  clear hb
                  have q := b5
                  obtain ⟨-, k0, k1, k2, k3, k4, kf⟩ := q
                  have q := b10
                  obtain ⟨-, j0, j1, j2⟩ := q
                  go_wp2
                  go_roundw
                  case rel => exact Inv.mk w g5 L.length _ _ _ _ (k + 1) (s) (xs2) (du) (le) false A11 c11 (by omega) (by go_num) (by rw [HX2.out]) rfl HO.out ⟨b5, hS11, pa5, hlo, hB⟩
                  case measure => simp [intOf]; omega
        · as_aux_lemma =>
            subst hdn
            rw [cls_err hd rfl (by omega) m ys] at G1
            have HO := Lib.hid hd
            clear hd
            go_upto_region 9 with fail
            have b10 := Ob.new wr (.int .i64 5) (.int .i64 m) (.slice B ys.length cb)
            have hop := HO0.out _ hst.bel
            replace hst := hst.keep (one_ (.cells #[.int .i64 5, .int .i64 m, .slice B ys.length cb] 34))
            have hsl := hop.sl.alloc (.cells #[.int .i64 5, .int .i64 m, .slice B ys.length cb] 34)
            have hl10 : g5 < wr.heap.size := hl5
            clear p0 p1 p2 hop
            generalize wr.alloc (.cells #[.int .i64 5, .int .i64 m, .slice B ys.length cb] 34) = V1 at b10 hst hsl ⊢
            generalize wr.heap.size = g10 at b10 hl10 ⊢
            have q := hst.b5
            obtain ⟨-, k0, k1, k2, k3, k4, kf⟩ := q
            have q := b10
            obtain ⟨-, j0, j1, j2⟩ := q
            go_wp2_with fail
            refine (G1.out _ hst.s5 hsl).mono ?_
            rintro e W ⟨A11, c11, rfl, hS11, hs11, hb⟩
            dsimp only [dval] at hS11 hs11 ⊢
            have pa5 := hs11 g5 hst.b5.lt hst.p55
            clear k0 k1 k2 k3 k4 kf j0 j1 j2 hs11 G1
            replace hst := hst.keep hb
            replace b10 := b10.keep hb
            replace hsl := hsl.keep hb
            clear hb
            go_upto_region 10 with fail
            have b11 := Bx.new W (.int .i64 s) (.slice A11 xs.length c11) (.int .i64 du) (.int .i64 le) (.bool true)
            have hl11 : g10 < W.heap.size := b10.lt
            replace hst := hst.keep (one_ (.cells #[.int .i64 s, .slice A11 xs.length c11, .int .i64 du, .int .i64 le, .bool true] 27))
            replace b10 := b10.alloc (.cells #[.int .i64 s, .slice A11 xs.length c11, .int .i64 du, .int .i64 le, .bool true] 27)
            replace hsl := hsl.alloc (.cells #[.int .i64 s, .slice A11 xs.length c11, .int .i64 du, .int .i64 le, .bool true] 27)
            replace hS11 := hS11.alloc (.cells #[.int .i64 s, .slice A11 xs.length c11, .int .i64 du, .int .i64 le, .bool true] 27)
            generalize W.alloc (.cells #[.int .i64 s, .slice A11 xs.length c11, .int .i64 du, .int .i64 le, .bool true] 27) = V2 at b10 b11 hst hsl hS11 ⊢
            generalize W.heap.size = g11 at b11 hl11 ⊢
            have q := hst.b5
            obtain ⟨-, k0, k1, k2, k3, k4, kf⟩ := q
            have q := b10
            obtain ⟨-, j0, j1, j2⟩ := q
            have q := b11
            obtain ⟨-, i0, i1, i2, i3, i4, if_⟩ := q
            have hext : SX.extract 0 xs.length = SX := by rw [← HX.out, str_take, List.take_length]
            go_upto_region 21 with fail
            clear k0 k1 k2 k3 k4 kf j0 j1 j2 i0 i1 i2 i3 i4 if_
            obtain ⟨b5, -, -, hlo, hB⟩ := hst
            replace b5 := b5.store (.int .i64 s) (.slice A11 xs.length c11) (.int .i64 du) (.int .i64 le) (.bool true)
            replace hS11 := (Sl.setCell (Sl.setCell (Sl.setCell (Sl.setCell (Sl.setCell hS11 ⟨g5, 0, none⟩ (.int .i64 s) pa5) ⟨g5, 1, none⟩ (.slice A11 xs.length c11) pa5) ⟨g5, 2, none⟩ (.int .i64 du) pa5) ⟨g5, 3, none⟩ (.int .i64 le) pa5) ⟨g5, 4, none⟩ (.bool true) pa5)
            replace b10 := (Ob.far (Ob.far (Ob.far (Ob.far (Ob.far b10 ⟨g5, 0, none⟩ (.int .i64 s) (by show g10 ≠ g5; omega)) ⟨g5, 1, none⟩ (.slice A11 xs.length c11) (by show g10 ≠ g5; omega)) ⟨g5, 2, none⟩ (.int .i64 du) (by show g10 ≠ g5; omega)) ⟨g5, 3, none⟩ (.int .i64 le) (by show g10 ≠ g5; omega)) ⟨g5, 4, none⟩ (.bool true) (by show g10 ≠ g5; omega))
            replace hB : Below w.heap.size w (((((V2.setCell ⟨g5, 0, none⟩ (.int .i64 s)).setCell ⟨g5, 1, none⟩ (.slice A11 xs.length c11)).setCell ⟨g5, 2, none⟩ (.int .i64 du)).setCell ⟨g5, 3, none⟩ (.int .i64 le)).setCell ⟨g5, 4, none⟩ (.bool true)) := by (repeat' (first | (with_reducible exact hB) | (with_reducible exact Below.refl _ _) | (with_reducible refine Below.setCell ?_ ?_ _) | (with_reducible refine Below.alloc ?_ ?_ _) | (with_reducible refine Below.drew ?_) | (simp; done) | omega | (simp; omega)))
            clear hsl b11
            generalize (((((V2.setCell ⟨g5, 0, none⟩ (.int .i64 s)).setCell ⟨g5, 1, none⟩ (.slice A11 xs.length c11)).setCell ⟨g5, 2, none⟩ (.int .i64 du)).setCell ⟨g5, 3, none⟩ (.int .i64 le)).setCell ⟨g5, 4, none⟩ (.bool true)) = V3 at b5 b10 hS11 hB ⊢
            have MK := Lib.hid (fun (X : World) (h : Below V3.heap.size V3 X) => (⟨⟨(b5.keep h).c1, (conv_row (hS11.keep h).row _ c11 rfl).trans (by rw [HX.out])⟩, h⟩ : (X.cell? ⟨g5, 1, none⟩ = some (.slice A11 xs.length c11) ∧ (convert 25 9 (.slice A11 xs.length c11)).run Try.prog X = .ok (.string SX) X) ∧ Below V3.heap.size V3 X))
            have hS := MK.out _ (Below.refl _ _).drew
            go_cut [129] from 26 to 145 (fun p wx => p = .bool false ∧ Below V3.heap.size V3 wx)
            case first =>
              go_region_held3 (fun X => (X.cell? ⟨g5, 1, none⟩ = some (.slice A11 xs.length c11) ∧ (convert 25 9 (.slice A11 xs.length c11)).run Try.prog X = .ok (.string SX) X) ∧ Below V3.heap.size V3 X)
                (first
                  | with_reducible exact hS
                  | (refine MK.out _ ?_; (repeat' (first | (with_reducible exact hB0) | (with_reducible exact Below.refl _ _) | (with_reducible refine Below.setCell ?_ ?_ _) | (with_reducible refine Below.alloc ?_ ?_ _) | (with_reducible refine Below.drew ?_) | (simp; done) | omega | (simp; omega)))))
                (first | fail)
              all_goals
                go_wp2_with fail
                go_meet
                first
                  | exact ⟨rfl, by (repeat' (first | (with_reducible exact hB0) | (with_reducible exact Below.refl _ _) | (with_reducible refine Below.setCell ?_ ?_ _) | (with_reducible refine Below.alloc ?_ ?_ _) | (with_reducible refine Below.drew ?_) | (simp; done) | omega | (simp; omega)))⟩
                  | exact ⟨congrArg Value.bool (decide_eq_false (by omega)), by (repeat' (first | (with_reducible exact hB0) | (with_reducible exact Below.refl _ _) | (with_reducible refine Below.setCell ?_ ?_ _) | (with_reducible refine Below.alloc ?_ ?_ _) | (with_reducible refine Below.drew ?_) | (simp; done) | omega | (simp; omega)))⟩
            case rest =>
              obtain ⟨rfl, hb⟩ := hcut
              clear hS
              have cv := (MK.out _ hb).1.2
              clear MK
              replace b5 := b5.keep hb
              replace b10 := b10.keep hb
              replace hS11 := hS11.keep hb
              replace hB := below_step hB hb
              clear hb
              have q := b5
              obtain ⟨-, k0, k1, k2, k3, k4, kf⟩ := q
              have q := b10
              obtain ⟨-, j0, j1, j2⟩ := q
              go_wp2
              go_roundw
              case rel => exact Inv.mk w g5 L.length _ _ _ _ (k + 1) (s) (xs) (du) (le) true A11 c11 (by omega) (by go_num) (by rw [HX.out]) rfl HO.out ⟨b5, hS11, pa5, hlo, hB⟩
              case measure => simp [intOf]; omega
      by_cases hkd : kd = 6
      · subst hkd
        cases hdn : dn
        · rcases cls_arm hd hdn m ys with hr | hr
          · as_aux_lemma =>
              subst hdn
              rw [hr] at G1
              clear hd
              go_upto_region 9 with fail
              have b10 := Ob.new wr (.int .i64 6) (.int .i64 m) (.slice B ys.length cb)
              have hop := HO0.out _ hst.bel
              replace hst := hst.keep (one_ (.cells #[.int .i64 6, .int .i64 m, .slice B ys.length cb] 34))
              have hsl := hop.sl.alloc (.cells #[.int .i64 6, .int .i64 m, .slice B ys.length cb] 34)
              have hl10 : g5 < wr.heap.size := hl5
              clear p0 p1 p2 hop
              generalize wr.alloc (.cells #[.int .i64 6, .int .i64 m, .slice B ys.length cb] 34) = V1 at b10 hst hsl ⊢
              generalize wr.heap.size = g10 at b10 hl10 ⊢
              have q := hst.b5
              obtain ⟨-, k0, k1, k2, k3, k4, kf⟩ := q
              have q := b10
              obtain ⟨-, j0, j1, j2⟩ := q
              go_wp2_with fail
              refine (G1.out _ hst.s5 hsl).mono ?_
              rintro e W ⟨A11, c11, rfl, hS11, hs11, hb⟩
              dsimp only [dval, dz, List.length_nil] at hS11 hs11 ⊢
              have pa5 := hs11 g5 hst.b5.lt hst.p55
              clear k0 k1 k2 k3 k4 kf j0 j1 j2 hs11 G1
              replace hst := hst.keep hb
              replace b10 := b10.keep hb
              replace hsl := hsl.keep hb
              clear hb
              go_upto_region 10 with fail
              have b11 := Bx.new W (.int .i64 0) (.slice A11 0 c11) (.int .i64 0) (.int .i64 0) (.bool false)
              have hl11 : g10 < W.heap.size := b10.lt
              replace hst := hst.keep (one_ (.cells #[.int .i64 0, .slice A11 0 c11, .int .i64 0, .int .i64 0, .bool false] 27))
              replace b10 := b10.alloc (.cells #[.int .i64 0, .slice A11 0 c11, .int .i64 0, .int .i64 0, .bool false] 27)
              replace hsl := hsl.alloc (.cells #[.int .i64 0, .slice A11 0 c11, .int .i64 0, .int .i64 0, .bool false] 27)
              replace hS11 := hS11.alloc (.cells #[.int .i64 0, .slice A11 0 c11, .int .i64 0, .int .i64 0, .bool false] 27)
              generalize W.alloc (.cells #[.int .i64 0, .slice A11 0 c11, .int .i64 0, .int .i64 0, .bool false] 27) = V2 at b10 b11 hst hsl hS11 ⊢
              generalize W.heap.size = g11 at b11 hl11 ⊢
              go_wp2
              go_roundw
              case rel => exact Inv.mk w g5 L.length _ _ _ _ (k + 1) s xs du le _ A5 c5 (by omega) (by go_num) (by rw [HX.out]) rfl HD.out hst
              case measure => simp [intOf]; omega
          · as_aux_lemma =>
              subst hdn
              have hfin := actF_fine hd 6 m ys
              rw [hr] at G1 hfin
              have HO := Lib.hid (show okD ⟨s, xs, du, m, false⟩ = true by rcases hfin with ⟨_, k1, _⟩ | ⟨_, k1, _⟩ | k1 | k1 <;> first | exact k1 | (simp at k1))
              clear hd hfin
              go_upto_region 9 with fail
              have b10 := Ob.new wr (.int .i64 6) (.int .i64 m) (.slice B ys.length cb)
              have hop := HO0.out _ hst.bel
              replace hst := hst.keep (one_ (.cells #[.int .i64 6, .int .i64 m, .slice B ys.length cb] 34))
              have hsl := hop.sl.alloc (.cells #[.int .i64 6, .int .i64 m, .slice B ys.length cb] 34)
              have hl10 : g5 < wr.heap.size := hl5
              clear p0 p1 p2 hop
              generalize wr.alloc (.cells #[.int .i64 6, .int .i64 m, .slice B ys.length cb] 34) = V1 at b10 hst hsl ⊢
              generalize wr.heap.size = g10 at b10 hl10 ⊢
              have q := hst.b5
              obtain ⟨-, k0, k1, k2, k3, k4, kf⟩ := q
              have q := b10
              obtain ⟨-, j0, j1, j2⟩ := q
              go_wp2_with fail
              refine (G1.out _ hst.s5 hsl).mono ?_
              rintro e W ⟨A11, c11, rfl, hS11, hs11, hb⟩
              dsimp only [dval] at hS11 hs11 ⊢
              have pa5 := hs11 g5 hst.b5.lt hst.p55
              clear k0 k1 k2 k3 k4 kf j0 j1 j2 hs11 G1
              replace hst := hst.keep hb
              replace b10 := b10.keep hb
              replace hsl := hsl.keep hb
              clear hb
              go_upto_region 10 with fail
              have b11 := Bx.new W (.int .i64 s) (.slice A11 xs.length c11) (.int .i64 du) (.int .i64 m) (.bool false)
              have hl11 : g10 < W.heap.size := b10.lt
              replace hst := hst.keep (one_ (.cells #[.int .i64 s, .slice A11 xs.length c11, .int .i64 du, .int .i64 m, .bool false] 27))
              replace b10 := b10.alloc (.cells #[.int .i64 s, .slice A11 xs.length c11, .int .i64 du, .int .i64 m, .bool false] 27)
              replace hsl := hsl.alloc (.cells #[.int .i64 s, .slice A11 xs.length c11, .int .i64 du, .int .i64 m, .bool false] 27)
              replace hS11 := hS11.alloc (.cells #[.int .i64 s, .slice A11 xs.length c11, .int .i64 du, .int .i64 m, .bool false] 27)
              generalize W.alloc (.cells #[.int .i64 s, .slice A11 xs.length c11, .int .i64 du, .int .i64 m, .bool false] 27) = V2 at b10 b11 hst hsl hS11 ⊢
              generalize W.heap.size = g11 at b11 hl11 ⊢
              have q := hst.b5
              obtain ⟨-, k0, k1, k2, k3, k4, kf⟩ := q
              have q := b10
              obtain ⟨-, j0, j1, j2⟩ := q
              have q := b11
              obtain ⟨-, i0, i1, i2, i3, i4, if_⟩ := q
              have hext : SX.extract 0 xs.length = SX := by rw [← HX.out, str_take, List.take_length]
              go_upto_region 21 with fail
              clear k0 k1 k2 k3 k4 kf j0 j1 j2 i0 i1 i2 i3 i4 if_
              obtain ⟨b5, -, -, hlo, hB⟩ := hst
              replace b5 := b5.store (.int .i64 s) (.slice A11 xs.length c11) (.int .i64 du) (.int .i64 m) (.bool false)
              replace hS11 := (Sl.setCell (Sl.setCell (Sl.setCell (Sl.setCell (Sl.setCell hS11 ⟨g5, 0, none⟩ (.int .i64 s) pa5) ⟨g5, 1, none⟩ (.slice A11 xs.length c11) pa5) ⟨g5, 2, none⟩ (.int .i64 du) pa5) ⟨g5, 3, none⟩ (.int .i64 m) pa5) ⟨g5, 4, none⟩ (.bool false) pa5)
              replace b10 := (Ob.far (Ob.far (Ob.far (Ob.far (Ob.far b10 ⟨g5, 0, none⟩ (.int .i64 s) (by show g10 ≠ g5; omega)) ⟨g5, 1, none⟩ (.slice A11 xs.length c11) (by show g10 ≠ g5; omega)) ⟨g5, 2, none⟩ (.int .i64 du) (by show g10 ≠ g5; omega)) ⟨g5, 3, none⟩ (.int .i64 m) (by show g10 ≠ g5; omega)) ⟨g5, 4, none⟩ (.bool false) (by show g10 ≠ g5; omega))
              replace hB : Below w.heap.size w (((((V2.setCell ⟨g5, 0, none⟩ (.int .i64 s)).setCell ⟨g5, 1, none⟩ (.slice A11 xs.length c11)).setCell ⟨g5, 2, none⟩ (.int .i64 du)).setCell ⟨g5, 3, none⟩ (.int .i64 m)).setCell ⟨g5, 4, none⟩ (.bool false)) := by (repeat' (first | (with_reducible exact hB) | (with_reducible exact Below.refl _ _) | (with_reducible refine Below.setCell ?_ ?_ _) | (with_reducible refine Below.alloc ?_ ?_ _) | (with_reducible refine Below.drew ?_) | (simp; done) | omega | (simp; omega)))
              clear hsl b11
              generalize (((((V2.setCell ⟨g5, 0, none⟩ (.int .i64 s)).setCell ⟨g5, 1, none⟩ (.slice A11 xs.length c11)).setCell ⟨g5, 2, none⟩ (.int .i64 du)).setCell ⟨g5, 3, none⟩ (.int .i64 m)).setCell ⟨g5, 4, none⟩ (.bool false)) = V3 at b5 b10 hS11 hB ⊢
              have MK := Lib.hid (fun (X : World) (h : Below V3.heap.size V3 X) => (⟨⟨(b5.keep h).c1, (conv_row (hS11.keep h).row _ c11 rfl).trans (by rw [HX.out])⟩, h⟩ : (X.cell? ⟨g5, 1, none⟩ = some (.slice A11 xs.length c11) ∧ (convert 25 9 (.slice A11 xs.length c11)).run Try.prog X = .ok (.string SX) X) ∧ Below V3.heap.size V3 X))
              have hS := MK.out _ (Below.refl _ _).drew
              go_cut [129] from 26 to 145 (fun p wx => p = .bool false ∧ Below V3.heap.size V3 wx)
              case first =>
                go_region_held3 (fun X => (X.cell? ⟨g5, 1, none⟩ = some (.slice A11 xs.length c11) ∧ (convert 25 9 (.slice A11 xs.length c11)).run Try.prog X = .ok (.string SX) X) ∧ Below V3.heap.size V3 X)
                  (first
                    | with_reducible exact hS
                    | (refine MK.out _ ?_; (repeat' (first | (with_reducible exact hB0) | (with_reducible exact Below.refl _ _) | (with_reducible refine Below.setCell ?_ ?_ _) | (with_reducible refine Below.alloc ?_ ?_ _) | (with_reducible refine Below.drew ?_) | (simp; done) | omega | (simp; omega)))))
                  (first | fail)
                all_goals
                  go_wp2_with fail
                  go_meet
                  first
                    | exact ⟨rfl, by (repeat' (first | (with_reducible exact hB0) | (with_reducible exact Below.refl _ _) | (with_reducible refine Below.setCell ?_ ?_ _) | (with_reducible refine Below.alloc ?_ ?_ _) | (with_reducible refine Below.drew ?_) | (simp; done) | omega | (simp; omega)))⟩
                    | exact ⟨congrArg Value.bool (decide_eq_false (by omega)), by (repeat' (first | (with_reducible exact hB0) | (with_reducible exact Below.refl _ _) | (with_reducible refine Below.setCell ?_ ?_ _) | (with_reducible refine Below.alloc ?_ ?_ _) | (with_reducible refine Below.drew ?_) | (simp; done) | omega | (simp; omega)))⟩
              case rest =>
                obtain ⟨rfl, hb⟩ := hcut
                clear hS
                have cv := (MK.out _ hb).1.2
                clear MK
                replace b5 := b5.keep hb
                replace b10 := b10.keep hb
                replace hS11 := hS11.keep hb
                replace hB := below_step hB hb
                clear hb
                have q := b5
                obtain ⟨-, k0, k1, k2, k3, k4, kf⟩ := q
                have q := b10
                obtain ⟨-, j0, j1, j2⟩ := q
                go_wp2
                go_roundw
                case rel => exact Inv.mk w g5 L.length _ _ _ _ (k + 1) (s) (xs) (du) (m) false A11 c11 (by omega) (by go_num) (by rw [HX.out]) rfl HO.out ⟨b5, hS11, pa5, hlo, hB⟩
                case measure => simp [intOf]; omega
        · as_aux_lemma =>
            subst hdn
            rw [cls_err hd rfl (by omega) m ys] at G1
            have HO := Lib.hid hd
            clear hd
            go_upto_region 9 with fail
            have b10 := Ob.new wr (.int .i64 6) (.int .i64 m) (.slice B ys.length cb)
            have hop := HO0.out _ hst.bel
            replace hst := hst.keep (one_ (.cells #[.int .i64 6, .int .i64 m, .slice B ys.length cb] 34))
            have hsl := hop.sl.alloc (.cells #[.int .i64 6, .int .i64 m, .slice B ys.length cb] 34)
            have hl10 : g5 < wr.heap.size := hl5
            clear p0 p1 p2 hop
            generalize wr.alloc (.cells #[.int .i64 6, .int .i64 m, .slice B ys.length cb] 34) = V1 at b10 hst hsl ⊢
            generalize wr.heap.size = g10 at b10 hl10 ⊢
            have q := hst.b5
            obtain ⟨-, k0, k1, k2, k3, k4, kf⟩ := q
            have q := b10
            obtain ⟨-, j0, j1, j2⟩ := q
            go_wp2_with fail
            refine (G1.out _ hst.s5 hsl).mono ?_
            rintro e W ⟨A11, c11, rfl, hS11, hs11, hb⟩
            dsimp only [dval] at hS11 hs11 ⊢
            have pa5 := hs11 g5 hst.b5.lt hst.p55
            clear k0 k1 k2 k3 k4 kf j0 j1 j2 hs11 G1
            replace hst := hst.keep hb
            replace b10 := b10.keep hb
            replace hsl := hsl.keep hb
            clear hb
            go_upto_region 10 with fail
            have b11 := Bx.new W (.int .i64 s) (.slice A11 xs.length c11) (.int .i64 du) (.int .i64 le) (.bool true)
            have hl11 : g10 < W.heap.size := b10.lt
            replace hst := hst.keep (one_ (.cells #[.int .i64 s, .slice A11 xs.length c11, .int .i64 du, .int .i64 le, .bool true] 27))
            replace b10 := b10.alloc (.cells #[.int .i64 s, .slice A11 xs.length c11, .int .i64 du, .int .i64 le, .bool true] 27)
            replace hsl := hsl.alloc (.cells #[.int .i64 s, .slice A11 xs.length c11, .int .i64 du, .int .i64 le, .bool true] 27)
            replace hS11 := hS11.alloc (.cells #[.int .i64 s, .slice A11 xs.length c11, .int .i64 du, .int .i64 le, .bool true] 27)
            generalize W.alloc (.cells #[.int .i64 s, .slice A11 xs.length c11, .int .i64 du, .int .i64 le, .bool true] 27) = V2 at b10 b11 hst hsl hS11 ⊢
            generalize W.heap.size = g11 at b11 hl11 ⊢
            have q := hst.b5
            obtain ⟨-, k0, k1, k2, k3, k4, kf⟩ := q
            have q := b10
            obtain ⟨-, j0, j1, j2⟩ := q
            have q := b11
            obtain ⟨-, i0, i1, i2, i3, i4, if_⟩ := q
            have hext : SX.extract 0 xs.length = SX := by rw [← HX.out, str_take, List.take_length]
            go_upto_region 21 with fail
            clear k0 k1 k2 k3 k4 kf j0 j1 j2 i0 i1 i2 i3 i4 if_
            obtain ⟨b5, -, -, hlo, hB⟩ := hst
            replace b5 := b5.store (.int .i64 s) (.slice A11 xs.length c11) (.int .i64 du) (.int .i64 le) (.bool true)
            replace hS11 := (Sl.setCell (Sl.setCell (Sl.setCell (Sl.setCell (Sl.setCell hS11 ⟨g5, 0, none⟩ (.int .i64 s) pa5) ⟨g5, 1, none⟩ (.slice A11 xs.length c11) pa5) ⟨g5, 2, none⟩ (.int .i64 du) pa5) ⟨g5, 3, none⟩ (.int .i64 le) pa5) ⟨g5, 4, none⟩ (.bool true) pa5)
            replace b10 := (Ob.far (Ob.far (Ob.far (Ob.far (Ob.far b10 ⟨g5, 0, none⟩ (.int .i64 s) (by show g10 ≠ g5; omega)) ⟨g5, 1, none⟩ (.slice A11 xs.length c11) (by show g10 ≠ g5; omega)) ⟨g5, 2, none⟩ (.int .i64 du) (by show g10 ≠ g5; omega)) ⟨g5, 3, none⟩ (.int .i64 le) (by show g10 ≠ g5; omega)) ⟨g5, 4, none⟩ (.bool true) (by show g10 ≠ g5; omega))
            replace hB : Below w.heap.size w (((((V2.setCell ⟨g5, 0, none⟩ (.int .i64 s)).setCell ⟨g5, 1, none⟩ (.slice A11 xs.length c11)).setCell ⟨g5, 2, none⟩ (.int .i64 du)).setCell ⟨g5, 3, none⟩ (.int .i64 le)).setCell ⟨g5, 4, none⟩ (.bool true)) := by (repeat' (first | (with_reducible exact hB) | (with_reducible exact Below.refl _ _) | (with_reducible refine Below.setCell ?_ ?_ _) | (with_reducible refine Below.alloc ?_ ?_ _) | (with_reducible refine Below.drew ?_) | (simp; done) | omega | (simp; omega)))
            clear hsl b11
            generalize (((((V2.setCell ⟨g5, 0, none⟩ (.int .i64 s)).setCell ⟨g5, 1, none⟩ (.slice A11 xs.length c11)).setCell ⟨g5, 2, none⟩ (.int .i64 du)).setCell ⟨g5, 3, none⟩ (.int .i64 le)).setCell ⟨g5, 4, none⟩ (.bool true)) = V3 at b5 b10 hS11 hB ⊢
            have MK := Lib.hid (fun (X : World) (h : Below V3.heap.size V3 X) => (⟨⟨(b5.keep h).c1, (conv_row (hS11.keep h).row _ c11 rfl).trans (by rw [HX.out])⟩, h⟩ : (X.cell? ⟨g5, 1, none⟩ = some (.slice A11 xs.length c11) ∧ (convert 25 9 (.slice A11 xs.length c11)).run Try.prog X = .ok (.string SX) X) ∧ Below V3.heap.size V3 X))
            have hS := MK.out _ (Below.refl _ _).drew
            go_cut [129] from 26 to 145 (fun p wx => p = .bool false ∧ Below V3.heap.size V3 wx)
            case first =>
              go_region_held3 (fun X => (X.cell? ⟨g5, 1, none⟩ = some (.slice A11 xs.length c11) ∧ (convert 25 9 (.slice A11 xs.length c11)).run Try.prog X = .ok (.string SX) X) ∧ Below V3.heap.size V3 X)
                (first
                  | with_reducible exact hS
                  | (refine MK.out _ ?_; (repeat' (first | (with_reducible exact hB0) | (with_reducible exact Below.refl _ _) | (with_reducible refine Below.setCell ?_ ?_ _) | (with_reducible refine Below.alloc ?_ ?_ _) | (with_reducible refine Below.drew ?_) | (simp; done) | omega | (simp; omega)))))
                (first | fail)
              all_goals
                go_wp2_with fail
                go_meet
                first
                  | exact ⟨rfl, by (repeat' (first | (with_reducible exact hB0) | (with_reducible exact Below.refl _ _) | (with_reducible refine Below.setCell ?_ ?_ _) | (with_reducible refine Below.alloc ?_ ?_ _) | (with_reducible refine Below.drew ?_) | (simp; done) | omega | (simp; omega)))⟩
                  | exact ⟨congrArg Value.bool (decide_eq_false (by omega)), by (repeat' (first | (with_reducible exact hB0) | (with_reducible exact Below.refl _ _) | (with_reducible refine Below.setCell ?_ ?_ _) | (with_reducible refine Below.alloc ?_ ?_ _) | (with_reducible refine Below.drew ?_) | (simp; done) | omega | (simp; omega)))⟩
            case rest =>
              obtain ⟨rfl, hb⟩ := hcut
              clear hS
              have cv := (MK.out _ hb).1.2
              clear MK
              replace b5 := b5.keep hb
              replace b10 := b10.keep hb
              replace hS11 := hS11.keep hb
              replace hB := below_step hB hb
              clear hb
              have q := b5
              obtain ⟨-, k0, k1, k2, k3, k4, kf⟩ := q
              have q := b10
              obtain ⟨-, j0, j1, j2⟩ := q
              go_wp2
              go_roundw
              case rel => exact Inv.mk w g5 L.length _ _ _ _ (k + 1) (s) (xs) (du) (le) true A11 c11 (by omega) (by go_num) (by rw [HX.out]) rfl HO.out ⟨b5, hS11, pa5, hlo, hB⟩
              case measure => simp [intOf]; omega
      have hkd7 : kd = 7 := by omega
      subst hkd7
      obtain ⟨n, hn, hdn2, hr⟩ := cls_crash hd m ys
      as_aux_lemma =>
        have hfin := actF_fine hd 7 m ys
        rw [hr] at G1 hfin
        have hln : (xs.take n).length = n := by rw [List.length_take]; omega
        rw [show (n : Int) = ((xs.take n).length : Int) by rw [hln]] at G1 hfin
        generalize hxs2 : xs.take n = xs2 at G1 hfin
        have HXS := Lib.hid hxs2
        clear hxs2
        have HLN := Lib.hid (show xs2.length = n by rw [← HXS.out]; exact hln)
        clear hln
        have HO := Lib.hid (show okD ⟨s, xs2, xs2.length, (-1), false⟩ = true by rcases hfin with ⟨_, k1, _⟩ | ⟨_, k1, _⟩ | k1 | k1 <;> first | exact k1 | (simp at k1))
        clear hd hfin
        go_upto_region 9 with fail
        have b10 := Ob.new wr (.int .i64 7) (.int .i64 m) (.slice B ys.length cb)
        have hop := HO0.out _ hst.bel
        replace hst := hst.keep (one_ (.cells #[.int .i64 7, .int .i64 m, .slice B ys.length cb] 34))
        have hsl := hop.sl.alloc (.cells #[.int .i64 7, .int .i64 m, .slice B ys.length cb] 34)
        have hl10 : g5 < wr.heap.size := hl5
        clear p0 p1 p2 hop
        generalize wr.alloc (.cells #[.int .i64 7, .int .i64 m, .slice B ys.length cb] 34) = V1 at b10 hst hsl ⊢
        generalize wr.heap.size = g10 at b10 hl10 ⊢
        have q := hst.b5
        obtain ⟨-, k0, k1, k2, k3, k4, kf⟩ := q
        have q := b10
        obtain ⟨-, j0, j1, j2⟩ := q
        go_wp2_with fail
        refine (G1.out _ hst.s5 hsl).mono ?_
        rintro e W ⟨A11, c11, rfl, hS11, hs11, hb⟩
        dsimp only [dval] at hS11 hs11 ⊢
        have pa5 := hs11 g5 hst.b5.lt hst.p55
        clear k0 k1 k2 k3 k4 kf j0 j1 j2 hs11 G1
        replace hst := hst.keep hb
        replace b10 := b10.keep hb
        replace hsl := hsl.keep hb
        clear hb
        go_upto_region 10 with fail
        have b11 := Bx.new W (.int .i64 s) (.slice A11 xs2.length c11) (.int .i64 xs2.length) (.int .i64 (-1)) (.bool false)
        have hl11 : g10 < W.heap.size := b10.lt
        replace hst := hst.keep (one_ (.cells #[.int .i64 s, .slice A11 xs2.length c11, .int .i64 xs2.length, .int .i64 (-1), .bool false] 27))
        replace b10 := b10.alloc (.cells #[.int .i64 s, .slice A11 xs2.length c11, .int .i64 xs2.length, .int .i64 (-1), .bool false] 27)
        replace hsl := hsl.alloc (.cells #[.int .i64 s, .slice A11 xs2.length c11, .int .i64 xs2.length, .int .i64 (-1), .bool false] 27)
        replace hS11 := hS11.alloc (.cells #[.int .i64 s, .slice A11 xs2.length c11, .int .i64 xs2.length, .int .i64 (-1), .bool false] 27)
        generalize W.alloc (.cells #[.int .i64 s, .slice A11 xs2.length c11, .int .i64 xs2.length, .int .i64 (-1), .bool false] 27) = V2 at b10 b11 hst hsl hS11 ⊢
        generalize W.heap.size = g11 at b11 hl11 ⊢
        have q := hst.b5
        obtain ⟨-, k0, k1, k2, k3, k4, kf⟩ := q
        have q := b10
        obtain ⟨-, j0, j1, j2⟩ := q
        have q := b11
        obtain ⟨-, i0, i1, i2, i3, i4, if_⟩ := q
        have hext0 : SX.extract 0 xs2.length = strOfNums xs2 := by rw [← HX.out, str_take, HLN.out]; exact congrArg strOfNums HXS.out
        generalize hS2 : strOfNums xs2 = S2 at hext0
        have HX2 := Lib.hid hS2
        clear hS2
        have hl1 := HLN.out
        have hl2 : xs2.length ≤ xs.length := by omega
        have hl4 : decide (xs.length < xs2.length) = false := by simp; omega
        have hl3 : du ≤ xs2.length := by omega
        clear hl1
        go_upto_region 21 with fail
        clear k0 k1 k2 k3 k4 kf j0 j1 j2 i0 i1 i2 i3 i4 if_
        obtain ⟨b5, -, -, hlo, hB⟩ := hst
        replace b5 := b5.store (.int .i64 s) (.slice A11 xs2.length c11) (.int .i64 xs2.length) (.int .i64 (-1)) (.bool false)
        replace hS11 := (Sl.setCell (Sl.setCell (Sl.setCell (Sl.setCell (Sl.setCell hS11 ⟨g5, 0, none⟩ (.int .i64 s) pa5) ⟨g5, 1, none⟩ (.slice A11 xs2.length c11) pa5) ⟨g5, 2, none⟩ (.int .i64 xs2.length) pa5) ⟨g5, 3, none⟩ (.int .i64 (-1)) pa5) ⟨g5, 4, none⟩ (.bool false) pa5)
        replace b10 := (Ob.far (Ob.far (Ob.far (Ob.far (Ob.far b10 ⟨g5, 0, none⟩ (.int .i64 s) (by show g10 ≠ g5; omega)) ⟨g5, 1, none⟩ (.slice A11 xs2.length c11) (by show g10 ≠ g5; omega)) ⟨g5, 2, none⟩ (.int .i64 xs2.length) (by show g10 ≠ g5; omega)) ⟨g5, 3, none⟩ (.int .i64 (-1)) (by show g10 ≠ g5; omega)) ⟨g5, 4, none⟩ (.bool false) (by show g10 ≠ g5; omega))
        replace hB : Below w.heap.size w (((((V2.setCell ⟨g5, 0, none⟩ (.int .i64 s)).setCell ⟨g5, 1, none⟩ (.slice A11 xs2.length c11)).setCell ⟨g5, 2, none⟩ (.int .i64 xs2.length)).setCell ⟨g5, 3, none⟩ (.int .i64 (-1))).setCell ⟨g5, 4, none⟩ (.bool false)) := by (repeat' (first | (with_reducible exact hB) | (with_reducible exact Below.refl _ _) | (with_reducible refine Below.setCell ?_ ?_ _) | (with_reducible refine Below.alloc ?_ ?_ _) | (with_reducible refine Below.drew ?_) | (simp; done) | omega | (simp; omega)))
        clear hsl b11
        generalize (((((V2.setCell ⟨g5, 0, none⟩ (.int .i64 s)).setCell ⟨g5, 1, none⟩ (.slice A11 xs2.length c11)).setCell ⟨g5, 2, none⟩ (.int .i64 xs2.length)).setCell ⟨g5, 3, none⟩ (.int .i64 (-1))).setCell ⟨g5, 4, none⟩ (.bool false)) = V3 at b5 b10 hS11 hB ⊢
        have MK := Lib.hid (fun (X : World) (h : Below V3.heap.size V3 X) => (⟨⟨(b5.keep h).c1, (conv_row (hS11.keep h).row _ c11 rfl).trans (by rw [HX2.out])⟩, h⟩ : (X.cell? ⟨g5, 1, none⟩ = some (.slice A11 xs2.length c11) ∧ (convert 25 9 (.slice A11 xs2.length c11)).run Try.prog X = .ok (.string S2) X) ∧ Below V3.heap.size V3 X))
        have hS := MK.out _ (Below.refl _ _).drew
        go_cut [129] from 26 to 145 (fun p wx => p = .bool false ∧ Below V3.heap.size V3 wx)
        case first =>
          go_region_held3 (fun X => (X.cell? ⟨g5, 1, none⟩ = some (.slice A11 xs2.length c11) ∧ (convert 25 9 (.slice A11 xs2.length c11)).run Try.prog X = .ok (.string S2) X) ∧ Below V3.heap.size V3 X)
            (first
              | with_reducible exact hS
              | (refine MK.out _ ?_; (repeat' (first | (with_reducible exact hB0) | (with_reducible exact Below.refl _ _) | (with_reducible refine Below.setCell ?_ ?_ _) | (with_reducible refine Below.alloc ?_ ?_ _) | (with_reducible refine Below.drew ?_) | (simp; done) | omega | (simp; omega)))))
            (first | fail)
          all_goals
            go_wp2_with fail
            go_meet
            first
              | exact ⟨rfl, by (repeat' (first | (with_reducible exact hB0) | (with_reducible exact Below.refl _ _) | (with_reducible refine Below.setCell ?_ ?_ _) | (with_reducible refine Below.alloc ?_ ?_ _) | (with_reducible refine Below.drew ?_) | (simp; done) | omega | (simp; omega)))⟩
              | exact ⟨congrArg Value.bool (decide_eq_false (by omega)), by (repeat' (first | (with_reducible exact hB0) | (with_reducible exact Below.refl _ _) | (with_reducible refine Below.setCell ?_ ?_ _) | (with_reducible refine Below.alloc ?_ ?_ _) | (with_reducible refine Below.drew ?_) | (simp; done) | omega | (simp; omega)))⟩
        case rest =>
          obtain ⟨rfl, hb⟩ := hcut
          clear hS
          have cv := (MK.out _ hb).1.2
          clear MK
          replace b5 := b5.keep hb
          replace b10 := b10.keep hb
          replace hS11 := hS11.keep hb
          replace hB := below_step hB hb
          clear hb
          have q := b5
          obtain ⟨-, k0, k1, k2, k3, k4, kf⟩ := q
          have q := b10
          obtain ⟨-, j0, j1, j2⟩ := q
          go_wp2
          go_roundw
          case rel => exact Inv.mk w g5 L.length _ _ _ _ (k + 1) (s) (xs2) (xs2.length) ((-1)) false A11 c11 (by omega) (by go_num) (by rw [HX2.out]) rfl HO.out ⟨b5, hS11, pa5, hlo, hB⟩
          case measure => simp [intOf]; omega
    · as_aux_lemma =>
        have G := Lib.hid (fun (W : World) (h : Sl W A5 c5 xs) => crash_gives ⟨s, xs, du, le, dn⟩ A5 c5 W h keep)
        obtain ⟨n, hn, hdn2, hr⟩ := crash_is hd keep
        rw [hr] at G
        clear hd hr
        have hln : (xs.take n).length = n := by rw [List.length_take]; omega
        have q := hst.b5
        obtain ⟨-, k0, k1, k2, k3, k4, kf⟩ := q
        go_wp2_with fail
        refine (G.out _ hst.s5).mono ?_
        rintro e W5 ⟨A13, c13, rfl, hS13, -, hb⟩
        dsimp only [dval] at hS13 ⊢
        rw [hln]
        replace hst := hst.keep hb
        clear hb k0 k1 k2 k3 k4 kf
        go_upto_region 28 with fail
        have b13 := Bx.new W5 (.int .i64 s) (.slice A13 n c13) (.int .i64 n) (.int .i64 (-1)) (.bool false)
        replace hst := hst.keep (one_ (.cells #[.int .i64 s, .slice A13 n c13, .int .i64 n, .int .i64 (-1), .bool false] 27))
        replace hS13 := hS13.alloc (.cells #[.int .i64 s, .slice A13 n c13, .int .i64 n, .int .i64 (-1), .bool false] 27)
        generalize W5.alloc (.cells #[.int .i64 s, .slice A13 n c13, .int .i64 n, .int .i64 (-1), .bool false] 27) = V6 at b13 hS13 hst ⊢
        generalize W5.heap.size = g13 at b13 ⊢
        have hB := hst.bel
        have hx5 := hst.s5
        have hc5 := hx5.le
        have hm5 := hx5.max
        have hb5 := hst.b5
        have MK := Lib.hid (fun (X : World) (h : Below V6.heap.size V6 X) => (⟨⟨(b13.keep h).c1, (b13.keep h).c2, (b13.keep h).c3, (b13.keep h).c4, (hb5.keep h).c1, conv_row (hS13.keep h).row n c13 hln.symm, conv_row ((hx5.keep h).take n (c := c5) (by omega) hm5).row n c5 hln.symm⟩, h⟩ : (X.cell? ⟨g13, 1, none⟩ = some (.slice A13 n c13) ∧ X.cell? ⟨g13, 2, none⟩ = some (.int .i64 n) ∧ X.cell? ⟨g13, 3, none⟩ = some (.int .i64 (-1)) ∧ X.cell? ⟨g13, 4, none⟩ = some (.bool false) ∧ X.cell? ⟨g5, 1, none⟩ = some (.slice A5 xs.length c5) ∧ (convert 25 9 (.slice A13 n c13)).run Try.prog X = .ok (.string (strOfNums (xs.take n))) X ∧ (convert 25 9 (.slice A5 n c5)).run Try.prog X = .ok (.string (strOfNums (xs.take n))) X) ∧ Below V6.heap.size V6 X))
        generalize strOfNums (xs.take n) = SZ at MK
        have hS := MK.out _ (Below.refl _ _).drew
        have hnc : n ≤ c5 := by omega
        clear hln hst
        go_region_held3 (fun X => (X.cell? ⟨g13, 1, none⟩ = some (.slice A13 n c13) ∧ X.cell? ⟨g13, 2, none⟩ = some (.int .i64 n) ∧ X.cell? ⟨g13, 3, none⟩ = some (.int .i64 (-1)) ∧ X.cell? ⟨g13, 4, none⟩ = some (.bool false) ∧ X.cell? ⟨g5, 1, none⟩ = some (.slice A5 xs.length c5) ∧ (convert 25 9 (.slice A13 n c13)).run Try.prog X = .ok (.string SZ) X ∧ (convert 25 9 (.slice A5 n c5)).run Try.prog X = .ok (.string SZ) X) ∧ Below V6.heap.size V6 X)
          (first
            | with_reducible exact hS
            | (refine MK.out _ ?_; (repeat' (first | (with_reducible exact hB0) | (with_reducible exact Below.refl _ _) | (with_reducible refine Below.setCell ?_ ?_ _) | (with_reducible refine Below.alloc ?_ ?_ _) | (with_reducible refine Below.drew ?_) | (simp; done) | omega | (simp; omega)))))
          (first | fail)
        all_goals
          go_wp2
          go_ret
          refine ⟨rfl, ?_⟩
          (repeat' (first | (with_reducible exact hB) | (with_reducible exact Below.refl _ _) | (with_reducible refine Below.setCell ?_ ?_ _) | (with_reducible refine Below.alloc ?_ ?_ _) | (with_reducible refine Below.drew ?_) | (simp; done) | omega | (simp; omega)))

set_option maxRecDepth 100000 in
set_option maxHeartbeats 1600000 in
theorem walk_few (a : Option Addr) (cap : Nat) (L : List OpD) (keep : Int) (w : World) (hL : OpsIn w a cap L) (hfew : fewB L = false) :
    Calls Try.prog 5 #[.slice a L.length cap, .int .i64 keep] w fun e w' => e = .returned (.bool true) ∧ Below w.heap.size w w' := by
  have F := Lib.hid (fun (W : World) (h : OpsIn W a cap L) => few_any a cap L W h)
  rw [hfew] at F
  clear hfew
  go_enter Try.func5, Try.ntmps5
  go_wp2_with fail
  refine (awake_any _).mono ?_
  rintro e W ⟨rfl, hB⟩
  go_wp2_with fail
  refine (F.out _ (hL.keep hB)).mono ?_
  rintro e W' ⟨rfl, rfl⟩
  go_wp2_with fail
  refine (awake_any _).mono ?_
  rintro e W2 ⟨rfl, hb⟩
  go_wp2
  go_ret
  exact ⟨rfl, below_step hB hb⟩
theorem walk (a : Option Addr) (cap : Nat) (L : List OpD) (keep : Int) (w : World) (hL : OpsIn w a cap L) (_ : (Lit.int .i64 keep).wf = true) :
    Calls Try.prog 5 #[.slice a L.length cap, .int .i64 keep] w fun e w' => e = .returned (.bool true) ∧ Below w.heap.size w w' := by
  cases hf : fewB L
  · exact walk_few a cap L keep w hL hf
  · exact walk_main a cap L keep w hL hf

set_option maxRecDepth 100000 in
theorem lifted (os : Os) (started : os.Started) (H : Type) (enc : TypeId × Value → H) :
    ReturnsInHanded {} Try.checked os 5 .any (Rows.diskPrefixSpec.pre6 enc Try.prog Try.f5 Rows.diskPrefixRow.domain false) (Rows.diskPrefixSpec.post enc Try.prog Try.f5 false true false false) := by
  refine returnsInHanded_of_change (C := Try.checked) own started (by kernel_rfl) Try.func5
    (ChangeSpec.witness6 (enc := enc) (C := Try.checked) false ⟨#[], #[.slice none 0 0, .int .i64 0], []⟩ 8 (by kernel_rfl) (by kernel_rfl) (by kernel_rfl) (by kernel_rfl)) ?_
  intro W base args ds gs before hval0 hW hcnd _
  have hval : ∀ (j : Nat) t v, Try.f5.params[j]? = some t → args[j]? = some v → Value.okWide Try.prog W .any base t v := hval0
  have hW' := hW
  obtain ⟨p, q, hA0, hV, rfl, hfz, hnd⟩ := hW
  have hA : DataW.TrodAll enc Try.prog W 0 (fun _ => true) true Try.f5.params.toList args.toList ds p := hA0
  rw [Try.params5] at hA hval
  obtain ⟨v0, vs0, d0, ds0, p0, q0, hargs, rfl, rfl, h0, r0⟩ := trodAll_cons hA
  obtain ⟨v1, vs1, d1, ds1, p1, q1, rfl, rfl, rfl, h1, r1⟩ := trodAll_cons r0
  obtain ⟨rfl, rfl, rfl⟩ := trodAll_nil r1
  obtain rfl : args = #[v0, v1] := by cases args; simp_all
  obtain ⟨rfl, rfl⟩ := trodVars_none hV
  have k0 := h0
  have lt0 : ∀ x ∈ p0, x.block < W.heap.size := by obtain ⟨m, hm⟩ := k0; exact DataW.trod_lt m _ _ _ hm
  obtain ⟨a0, len0, c0, rfl⟩ := okWide_slice Try.underlying22 (hval 0 22 v0 rfl rfl)
  obtain ⟨L0, eL0, hL0⟩ := open_ops h0
  subst eL0
  obtain ⟨a1, rfl, rfl, rfl, w1⟩ := open_int Try.underlying3 (hval 1 3 v1 rfl rfl) h1
  clear hA0 hval0
  refine (walk a0 c0 L0 a1 W hL0 w1).mono fun e W' ⟨he, bel⟩ => ?_
  subst he
  exact ⟨_, rfl, _, _, _, [], _, [], hW', trodAll_mk1 (shut_bool Try.underlying4 _), (trodAll_cons_mk (Below.trod laidOut (by kernel_rfl) (of_decide_eq_true (by kernel_rfl)) k0 bel lt0) (trodAll_cons_mk (shut_int Try.underlying3 w1) trodAll_mk0)), rfl, bel.frame _, fun h => by cases h⟩

theorem over : Rows.diskPrefixRow.holds Try.pinned (OpenSpec.ofChange Rows.diskPrefixSpec) :=
  OpenClaim.holds_of_wide 5 Try.f5 rfl rfl rfl rfl rfl rfl rfl ⟨rfl, rfl, rfl, rfl, rfl⟩ rfl rfl rfl rfl rfl (by kernel_rfl) Try.func5 (by kernel_rfl)
    (of_decide_eq_true (by kernel_rfl)) (by unfold Func.isWrapper; first | (rw [if_pos (by decide +kernel)]; kernel_rfl) | (rw [if_neg (by decide +kernel)]; exact ⟨rfl, rfl⟩))
    (fun os started H enc _ => lifted os started H enc)

theorem proved : Rows.DiskPrefixSaid := over
#print axioms proved
end Go.Proofs.Ytdchodjfgeglgaa.diskPrefix
