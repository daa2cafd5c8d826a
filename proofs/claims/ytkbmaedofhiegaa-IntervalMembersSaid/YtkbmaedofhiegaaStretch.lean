import Derived.Test.YtkbmaedofhiegaaFloor
import Derived.Test.YtkbmaedofhiegaaFns
namespace Go.Proofs.Ytkbmaedofhiegaa
open Go.ChangeShapes Go.WideShapes Go.ChangeAt Go.RowKit
set_option maxRecDepth 100000

def loF (e p : Int) : Int := mill (e * (1000000 - p))
def hiF (e p : Int) : Int := -mill (-e * (1000000 + p))
/-- the stretched duration -/
def stretchF (d p : Int) : Int × Int × Bool :=
  if d < -1000000000000 ∨ 1000000000000 < d ∨ p < 0 ∨ 10000 < p then (0, 0, false)
  else if 0 ≤ d then (loF d p, hiF d p, true) else (-hiF (-d) p, -loF (-d) p, true)

theorem mul_le_lim {e f : Int} (he : 0 ≤ e ∧ e ≤ 1000000000000) (hf : 0 ≤ f ∧ f ≤ 1010000) : 0 ≤ e * f ∧ e * f ≤ 1010000000000000000 := by
  constructor
  · exact Int.mul_nonneg he.1 hf.1
  · have h1 : e * f ≤ 1000000000000 * f := Int.mul_le_mul_of_nonneg_right he.2 hf.1
    omega
theorem lo_bd {e p : Int} (he : 0 ≤ e ∧ e ≤ 1000000000000) (hp : 0 ≤ p ∧ p ≤ 10000) : 0 ≤ loF e p ∧ loF e p ≤ 1010000000000 := by
  have h := mul_le_lim he (f := 1000000 - p) (by omega)
  unfold loF mill; omega
theorem hi_bd {e p : Int} (he : 0 ≤ e ∧ e ≤ 1000000000000) (hp : 0 ≤ p ∧ p ≤ 10000) : 0 ≤ hiF e p ∧ hiF e p ≤ 1010000000000 := by
  have h := mul_le_lim he (f := 1000000 + p) (by omega)
  unfold hiF mill
  rw [Int.neg_mul]; omega

set_option maxHeartbeats 1600000 in
theorem stretch_pos (d p : Int) (w : World) (hd : 0 ≤ d ∧ d ≤ 1000000000000) (hp : 0 ≤ p ∧ p ≤ 10000) : Calls Try.prog 22 #[.int .i64 d, .int .i64 p] w (Gives w (stretchF d p)) := by
  have F := Lib.hid (show stretchF d p = (loF d p, hiF d p, true) by unfold stretchF; rw [if_neg (by omega), if_pos hd.1])
  have c1 := fun W => floor_million d (1000000 - p) W (by omega) (by omega)
  have c2 := fun W => ceil_million d (1000000 + p) W (by omega) (by omega)
  rw [show mill (d * (1000000 - p)) = loF d p from rfl] at c1
  rw [show -mill (-d * (1000000 + p)) = hiF d p from rfl] at c2
  generalize loF d p = lo at *
  generalize hiF d p = hi at *
  have C1 := Lib.hid c1
  have C2 := Lib.hid c2
  obtain ⟨d1, d2⟩ := hd
  obtain ⟨p1, p2⟩ := hp
  have hda : decide (d < -1000000000000) = false := by simp; omega
  have hdb : decide (1000000000000 < d) = false := by simp; omega
  have hdc : decide (p < 0) = false := by simp; omega
  have hdd : decide (10000 < p) = false := by simp; omega
  clear c1 c2
  go_enter Try.func22, Try.ntmps22
  go_wp2_with fail
  refine (C1.out _).mono ?_
  rintro e W0 ⟨rfl, hb⟩
  obtain ⟨hc, hf⟩ := bcell hb
  go_wp2_with fail
  refine (C2.out _).mono ?_
  rintro e W1 ⟨rfl, hb1⟩
  replace hb := hb.trans (hb1.mono hb.size)
  clear hc hf hb1
  obtain ⟨hc, hf⟩ := bcell hb
  have hz := hb.size
  simp at hz
  have hz1 : w.heap.size < W1.heap.size := by omega
  go_wp2
  have hB := (one_ _).trans (hb.mono (one_ (w := w) _).size)
  refine bodyPost_ret (v := .tuple #[.agg #[.int .i64 lo, .int .i64 hi], .bool true]) (by first | (simp [results, Try.results22, go_sem, hc]; done) | (simp [results, Try.results22, go_sem, hc, hz1]; done)) rfl (gives_mk F.out ?_)
  repeat (first | exact hB | exact Below.refl _ _ | refine Below.setCell ?_ (by first | (simp; done) | (simp; omega)) _ | refine Below.alloc ?_ (by first | (simp; done) | (simp; omega)) _ | refine Below.drew ?_)

theorem stretch_bad (d p : Int) (w : World) (h : d < -1000000000000 ∨ 1000000000000 < d ∨ p < 0 ∨ 10000 < p) : Calls Try.prog 22 #[.int .i64 d, .int .i64 p] w (Gives w (stretchF d p)) := by
  have F := Lib.hid (show stretchF d p = (0, 0, false) by unfold stretchF; rw [if_pos h])
  have hB := one_ (w := w) (.cells #[.int .i64 0, .int .i64 0] 23)
  by_cases h1 : d < -1000000000000
  · go_enter Try.func22, Try.ntmps22
    go_wp2
    refine bodyPost_ret (v := .tuple #[.agg #[.int .i64 0, .int .i64 0], .bool false]) (by simp [results, Try.results22, go_sem]) rfl (gives_mk F.out ?_)
    repeat (first | exact hB | exact Below.refl _ _ | refine Below.setCell ?_ (by first | (simp; done) | (simp; omega)) _ | refine Below.alloc ?_ (by first | (simp; done) | (simp; omega)) _ | refine Below.drew ?_)
  · by_cases h2 : 1000000000000 < d
    · go_enter Try.func22, Try.ntmps22
      go_wp2
      refine bodyPost_ret (v := .tuple #[.agg #[.int .i64 0, .int .i64 0], .bool false]) (by simp [results, Try.results22, go_sem]) rfl (gives_mk F.out ?_)
      repeat (first | exact hB | exact Below.refl _ _ | refine Below.setCell ?_ (by first | (simp; done) | (simp; omega)) _ | refine Below.alloc ?_ (by first | (simp; done) | (simp; omega)) _ | refine Below.drew ?_)
    · by_cases h3 : p < 0
      · go_enter Try.func22, Try.ntmps22
        go_wp2
        refine bodyPost_ret (v := .tuple #[.agg #[.int .i64 0, .int .i64 0], .bool false]) (by simp [results, Try.results22, go_sem]) rfl (gives_mk F.out ?_)
        repeat (first | exact hB | exact Below.refl _ _ | refine Below.setCell ?_ (by first | (simp; done) | (simp; omega)) _ | refine Below.alloc ?_ (by first | (simp; done) | (simp; omega)) _ | refine Below.drew ?_)
      · have h4 : 10000 < p := by omega
        go_enter Try.func22, Try.ntmps22
        go_wp2
        refine bodyPost_ret (v := .tuple #[.agg #[.int .i64 0, .int .i64 0], .bool false]) (by simp [results, Try.results22, go_sem]) rfl (gives_mk F.out ?_)
        repeat (first | exact hB | exact Below.refl _ _ | refine Below.setCell ?_ (by first | (simp; done) | (simp; omega)) _ | refine Below.alloc ?_ (by first | (simp; done) | (simp; omega)) _ | refine Below.drew ?_)

set_option maxHeartbeats 1600000 in
theorem stretch_any (d p : Int) (w : World) : Calls Try.prog 22 #[.int .i64 d, .int .i64 p] w (Gives w (stretchF d p)) := by
  by_cases hbad : d < -1000000000000 ∨ 1000000000000 < d ∨ p < 0 ∨ 10000 < p
  · exact stretch_bad d p w hbad
  · by_cases hpos : 0 ≤ d
    · exact stretch_pos d p w (by omega) (by omega)
    · have F := Lib.hid (show stretchF d p = (-hiF (-d) p, -loF (-d) p, true) by unfold stretchF; rw [if_neg hbad, if_neg hpos])
      have hl := lo_bd (e := -d) (p := p) (by omega) (by omega)
      have hh := hi_bd (e := -d) (p := p) (by omega) (by omega)
      have c1 := fun W => stretch_pos (-d) p W (by omega) (by omega)
      rw [show stretchF (-d) p = (loF (-d) p, hiF (-d) p, true) by unfold stretchF; rw [if_neg (by omega), if_pos (by omega)]] at c1
      generalize loF (-d) p = lo at *
      generalize hiF (-d) p = hi at *
      have C1 := Lib.hid c1
      obtain ⟨l1, l2⟩ := hl
      obtain ⟨h1, h2⟩ := hh
      have d1 : -1000000000000 ≤ d := by omega
      have d2 : d < 0 := by omega
      have hda : decide (d < -1000000000000) = false := by simp; omega
      have hdb : decide (1000000000000 < d) = false := by simp; omega
      have hdc : decide (p < 0) = false := by simp; omega
      have hdd : decide (10000 < p) = false := by simp; omega
      have hde : decide (d < 0) = true := by simp; omega
      clear c1 hbad hpos
      go_enter Try.func22, Try.ntmps22
      go_wp2_with fail
      refine (C1.out _).mono ?_
      rintro e W0 ⟨rfl, hb⟩
      obtain ⟨hc, hf⟩ := bcell hb
      have hz := hb.size
      simp at hz
      have hz1 : w.heap.size < W0.heap.size := by omega
      go_wp2
      have hB := (one_ _).trans (hb.mono (one_ (w := w) _).size)
      refine bodyPost_ret (v := .tuple #[.agg #[.int .i64 (-hi), .int .i64 (-lo)], .bool true]) (by first | (simp [results, Try.results22, go_sem, hc]; done) | (simp [results, Try.results22, go_sem, hc, hz1]; done)) rfl (gives_mk F.out ?_)
      repeat (first | exact hB | exact Below.refl _ _ | refine Below.setCell ?_ (by first | (simp; done) | (simp; omega)) _ | refine Below.alloc ?_ (by first | (simp; done) | (simp; omega)) _ | refine Below.drew ?_)

set_option maxHeartbeats 1600000 in
theorem rstretch_pos (d p : Int) (w : World) (hd : 0 ≤ d ∧ d ≤ 1000000000000) (hp : 0 ≤ p ∧ p ≤ 10000) : Calls Try.prog 23 #[.int .i64 d, .int .i64 p] w (Gives w (stretchF d p)) := by
  have f := (show stretchF d p = (loF d p, hiF d p, true) by unfold stretchF; rw [if_neg (by omega), if_pos hd.1])
  have hL := mul_le_lim hd (f := 1000000 - p) (by omega)
  have hM := mul_le_lim hd (f := 1000000 + p) (by omega)
  unfold loF hiF mill at f
  rw [Int.neg_mul] at f
  have wl : wrap64 (d * (1000000 - p)) = d * (1000000 - p) := by unfold wrap64; omega
  have wm : wrap64 (d * (1000000 + p)) = d * (1000000 + p) := by unfold wrap64; omega
  generalize hLL : d * (1000000 - p) = L at *
  generalize hMM : d * (1000000 + p) = M at *
  have F := Lib.hid (show stretchF d p = (L / 1000000, (M + 1000000 - 1) / 1000000, true) by rw [f]; congr 2; omega)
  have HLL := Lib.hid hLL
  have HMM := Lib.hid hMM
  obtain ⟨d1, d2⟩ := hd
  obtain ⟨p1, p2⟩ := hp
  obtain ⟨L1, L2⟩ := hL
  obtain ⟨M1, M2⟩ := hM
  have hda : decide (d < -1000000000000) = false := by simp; omega
  have hdb : decide (1000000000000 < d) = false := by simp; omega
  have hdc : decide (p < 0) = false := by simp; omega
  have hdd : decide (10000 < p) = false := by simp; omega
  have hde : decide (d < 0) = false := by simp; omega
  clear f wl wm
  have hB := one_ (w := w) (.cells #[.int .i64 0, .int .i64 0] 23)
  go_enter Try.func23, Try.ntmps23
  go_wp2

  refine bodyPost_ret (v := .tuple #[.agg #[.int .i64 (L / 1000000), .int .i64 ((M + 1000000 - 1) / 1000000)], .bool true]) (by simp [results, Try.results23, go_sem]) rfl (gives_mk F.out ?_)
  repeat (first | exact hB | exact Below.refl _ _ | refine Below.setCell ?_ (by first | (simp; done) | (simp; omega)) _ | refine Below.alloc ?_ (by first | (simp; done) | (simp; omega)) _ | refine Below.drew ?_)

theorem rstretch_bad (d p : Int) (w : World) (h : d < -1000000000000 ∨ 1000000000000 < d ∨ p < 0 ∨ 10000 < p) : Calls Try.prog 23 #[.int .i64 d, .int .i64 p] w (Gives w (stretchF d p)) := by
  have F := Lib.hid (show stretchF d p = (0, 0, false) by unfold stretchF; rw [if_pos h])
  have hB := one_ (w := w) (.cells #[.int .i64 0, .int .i64 0] 23)
  by_cases h1 : d < -1000000000000
  · go_enter Try.func23, Try.ntmps23
    go_wp2
    refine bodyPost_ret (v := .tuple #[.agg #[.int .i64 0, .int .i64 0], .bool false]) (by simp [results, Try.results23, go_sem]) rfl (gives_mk F.out ?_)
    repeat (first | exact hB | exact Below.refl _ _ | refine Below.setCell ?_ (by first | (simp; done) | (simp; omega)) _ | refine Below.alloc ?_ (by first | (simp; done) | (simp; omega)) _ | refine Below.drew ?_)
  · by_cases h2 : 1000000000000 < d
    · go_enter Try.func23, Try.ntmps23
      go_wp2
      refine bodyPost_ret (v := .tuple #[.agg #[.int .i64 0, .int .i64 0], .bool false]) (by simp [results, Try.results23, go_sem]) rfl (gives_mk F.out ?_)
      repeat (first | exact hB | exact Below.refl _ _ | refine Below.setCell ?_ (by first | (simp; done) | (simp; omega)) _ | refine Below.alloc ?_ (by first | (simp; done) | (simp; omega)) _ | refine Below.drew ?_)
    · by_cases h3 : p < 0
      · go_enter Try.func23, Try.ntmps23
        go_wp2
        refine bodyPost_ret (v := .tuple #[.agg #[.int .i64 0, .int .i64 0], .bool false]) (by simp [results, Try.results23, go_sem]) rfl (gives_mk F.out ?_)
        repeat (first | exact hB | exact Below.refl _ _ | refine Below.setCell ?_ (by first | (simp; done) | (simp; omega)) _ | refine Below.alloc ?_ (by first | (simp; done) | (simp; omega)) _ | refine Below.drew ?_)
      · have h4 : 10000 < p := by omega
        go_enter Try.func23, Try.ntmps23
        go_wp2
        refine bodyPost_ret (v := .tuple #[.agg #[.int .i64 0, .int .i64 0], .bool false]) (by simp [results, Try.results23, go_sem]) rfl (gives_mk F.out ?_)
        repeat (first | exact hB | exact Below.refl _ _ | refine Below.setCell ?_ (by first | (simp; done) | (simp; omega)) _ | refine Below.alloc ?_ (by first | (simp; done) | (simp; omega)) _ | refine Below.drew ?_)

set_option maxHeartbeats 1600000 in
theorem rstretch_any (d p : Int) (w : World) : Calls Try.prog 23 #[.int .i64 d, .int .i64 p] w (Gives w (stretchF d p)) := by
  by_cases hbad : d < -1000000000000 ∨ 1000000000000 < d ∨ p < 0 ∨ 10000 < p
  · exact rstretch_bad d p w hbad
  · by_cases hpos : 0 ≤ d
    · exact rstretch_pos d p w (by omega) (by omega)
    · have F := Lib.hid (show stretchF d p = (-hiF (-d) p, -loF (-d) p, true) by unfold stretchF; rw [if_neg hbad, if_neg hpos])
      have hl := lo_bd (e := -d) (p := p) (by omega) (by omega)
      have hh := hi_bd (e := -d) (p := p) (by omega) (by omega)
      have c1 := fun W => rstretch_pos (-d) p W (by omega) (by omega)
      rw [show stretchF (-d) p = (loF (-d) p, hiF (-d) p, true) by unfold stretchF; rw [if_neg (by omega), if_pos (by omega)]] at c1
      generalize loF (-d) p = lo at *
      generalize hiF (-d) p = hi at *
      have C1 := Lib.hid c1
      obtain ⟨l1, l2⟩ := hl
      obtain ⟨h1, h2⟩ := hh
      have d1 : -1000000000000 ≤ d := by omega
      have d2 : d < 0 := by omega
      have hda : decide (d < -1000000000000) = false := by simp; omega
      have hdb : decide (1000000000000 < d) = false := by simp; omega
      have hdc : decide (p < 0) = false := by simp; omega
      have hdd : decide (10000 < p) = false := by simp; omega
      have hde : decide (d < 0) = true := by simp; omega
      clear c1 hbad hpos
      go_enter Try.func23, Try.ntmps23
      go_wp2_with fail
      refine (C1.out _).mono ?_
      rintro e W0 ⟨rfl, hb⟩
      obtain ⟨hc, hf⟩ := bcell hb
      have hz := hb.size
      simp at hz
      have hz1 : w.heap.size < W0.heap.size := by omega
      go_wp2
      have hB := (one_ _).trans (hb.mono (one_ (w := w) _).size)
      refine bodyPost_ret (v := .tuple #[.agg #[.int .i64 (-hi), .int .i64 (-lo)], .bool true]) (by first | (simp [results, Try.results23, go_sem, hc]; done) | (simp [results, Try.results23, go_sem, hc, hz1]; done)) rfl (gives_mk F.out ?_)
      repeat (first | exact hB | exact Below.refl _ _ | refine Below.setCell ?_ (by first | (simp; done) | (simp; omega)) _ | refine Below.alloc ?_ (by first | (simp; done) | (simp; omega)) _ | refine Below.drew ?_)
end Go.Proofs.Ytkbmaedofhiegaa
