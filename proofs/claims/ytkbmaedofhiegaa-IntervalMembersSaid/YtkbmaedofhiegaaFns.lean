/- Contracts of the interval layer's functions and of the reference's. -/
import Derived.Test.YtkbmaedofhiegaaBase
namespace Go.Proofs.Ytkbmaedofhiegaa
open Go.ChangeShapes Go.WideShapes Go.ChangeAt Go.RowKit
set_option maxRecDepth 100000

/-- the common part -/
def meetF (a b c d : Int) : Int × Int × Bool :=
  if vld a b = true ∧ vld c d = true ∧ max a c ≤ min b d then (max a c, min b d, true) else (0, 0, false)
/-- all sums -/
def addF (a b c d : Int) : Int × Int × Bool :=
  if vld a b = true ∧ vld c d = true ∧ vld (a + c) (b + d) = true then (a + c, b + d, true) else (0, 0, false)
/-- the least interval that holds both -/
def hullF (a b c d : Int) : Int × Int :=
  if vld a b = true then (if vld c d = true then (min a c, max b d) else (a, b)) else (if vld c d = true then (c, d) else (0, 0))
def beforeF (a b c d : Int) : Bool := vld a b && vld c d && decide (b < c)
def withinF (a b n : Int) : Bool := vld a b && decide (a ≤ n) && decide (n ≤ b)

/-- what a function returns that returns an interval and a bool -/
def Gives (w : World) (r : Int × Int × Bool) (e : Ending) (w' : World) : Prop :=
  e = .returned (.tuple #[.agg #[.int .i64 r.1, .int .i64 r.2.1], .bool r.2.2]) ∧ Below w.heap.size w w'
theorem gives_mk {w w' : World} {r : Int × Int × Bool} {x y : Int} {z : Bool} (h : r = (x, y, z)) (hb : Below w.heap.size w w') : Gives w r (.returned (.tuple #[.agg #[.int .i64 x, .int .i64 y], .bool z])) w' := by
  subst h; exact ⟨rfl, hb⟩
def Gives2 (w : World) (r : Int × Int) (e : Ending) (w' : World) : Prop :=
  e = .returned (.agg #[.int .i64 r.1, .int .i64 r.2]) ∧ Below w.heap.size w w'
theorem gives2_mk {w w' : World} {r : Int × Int} {x y : Int} (h : r = (x, y)) (hb : Below w.heap.size w w') : Gives2 w r (.returned (.agg #[.int .i64 x, .int .i64 y])) w' := by
  subst h; exact ⟨rfl, hb⟩

theorem one_ {w : World} (A : Obj) : Below w.heap.size w (w.alloc A) := (Below.refl _ _).alloc (Nat.le_refl _) _
theorem two_ {w : World} (A B : Obj) : Below w.heap.size w ((w.alloc A).alloc B) := (one_ A).alloc (by simp) _
theorem three {w : World} (A B C : Obj) : Below w.heap.size w (((w.alloc A).alloc B).alloc C) := (two_ A B).alloc (by simp; omega) _
theorem four_ {w : World} (A B C D : Obj) : Below w.heap.size w ((((w.alloc A).alloc B).alloc C).alloc D) := (three A B C).alloc (by simp; omega) _

theorem vld_range {a b : Int} (h : vld a b = true) : (-1000000000000000 ≤ a ∧ a ≤ 1000000000000000) ∧ (-1000000000000000 ≤ b ∧ b ≤ 1000000000000000) ∧ a ≤ b := by
  unfold vld at h
  simp only [Bool.and_eq_true, decide_eq_true_eq] at h
  exact ⟨inB_true.1 h.1.1, inB_true.1 h.1.2, h.2⟩
theorem vld_mk {a b : Int} (h1 : -1000000000000000 ≤ a ∧ a ≤ 1000000000000000) (h2 : -1000000000000000 ≤ b ∧ b ≤ 1000000000000000) (h3 : a ≤ b) : vld a b = true := by
  unfold vld
  simp only [Bool.and_eq_true, decide_eq_true_eq]
  exact ⟨⟨inB_true.2 h1, inB_true.2 h2⟩, h3⟩

set_option maxHeartbeats 1600000 in
theorem meet_any (a b c d : Int) (w : World) : Calls Try.prog 9 #[.agg #[.int .i64 a, .int .i64 b], .agg #[.int .i64 c, .int .i64 d]] w (Gives w (meetF a b c d)) := by
  have V1 := Lib.hid (fun W => valid_any a b W)
  have V2 := Lib.hid (fun W => valid_any c d W)
  by_cases p : vld a b = true
  · by_cases q : vld c d = true
    · by_cases m : max a c ≤ min b d
      · have F := Lib.hid (show meetF a b c d = (max a c, min b d, true) by unfold meetF; rw [if_pos ⟨p, q, m⟩])
        rw [p] at V1
        rw [q] at V2
        clear p q
        go_enter Try.func9, Try.ntmps9
        go_wp2_with fail
        refine (V1.out _).mono ?_
        rintro e W0 ⟨rfl, hb0⟩
        have hb := hb0
        clear hb0
        obtain ⟨hc, hf⟩ := bcell hb
        have hz := hb.size
        simp at hz
        have hz1 : w.heap.size + 1 + 1 < W0.heap.size := by omega
        go_wp2_with fail
        refine (V2.out _).mono ?_
        rintro e W1 ⟨rfl, hb1⟩
        replace hb := hb.trans (hb1.mono hb.size)
        clear hc hf hz hz1 hb1
        obtain ⟨hc, hf⟩ := bcell hb
        have hz := hb.size
        simp at hz
        have hz1 : w.heap.size + 1 + 1 < W1.heap.size := by omega
        go_wp2
        have hB := (three _ _ _ ).trans (hb.mono (three (w := w) _ _ _ ).size)
        refine bodyPost_ret (v := .tuple #[.agg #[.int .i64 (max a c), .int .i64 (min b d)], .bool true]) (by first | (simp [results, Try.results9, go_sem, hc]; done) | (simp [results, Try.results9, go_sem, hc, hz1]; done)) rfl (gives_mk F.out ?_)
        repeat (first | exact hB | refine Below.setCell ?_ (by simp; omega) _ | refine Below.alloc ?_ (by simp; omega) _ | refine Below.drew ?_)
      · have F := Lib.hid (show meetF a b c d = (0, 0, false) by unfold meetF; rw [if_neg (fun h => m h.2.2)])
        rw [p] at V1
        rw [q] at V2
        clear p q
        go_enter Try.func9, Try.ntmps9
        go_wp2_with fail
        refine (V1.out _).mono ?_
        rintro e W0 ⟨rfl, hb0⟩
        have hb := hb0
        clear hb0
        obtain ⟨hc, hf⟩ := bcell hb
        have hz := hb.size
        simp at hz
        have hz1 : w.heap.size + 1 + 1 < W0.heap.size := by omega
        go_wp2_with fail
        refine (V2.out _).mono ?_
        rintro e W1 ⟨rfl, hb1⟩
        replace hb := hb.trans (hb1.mono hb.size)
        clear hc hf hz hz1 hb1
        obtain ⟨hc, hf⟩ := bcell hb
        have hz := hb.size
        simp at hz
        have hz1 : w.heap.size + 1 + 1 < W1.heap.size := by omega
        go_wp2
        have hB := (three _ _ _ ).trans (hb.mono (three (w := w) _ _ _ ).size)
        refine bodyPost_ret (v := .tuple #[.agg #[.int .i64 (0), .int .i64 (0)], .bool false]) (by first | (simp [results, Try.results9, go_sem, hc]; done) | (simp [results, Try.results9, go_sem, hc, hz1]; done)) rfl (gives_mk F.out ?_)
        repeat (first | exact hB | refine Below.setCell ?_ (by simp; omega) _ | refine Below.alloc ?_ (by simp; omega) _ | refine Below.drew ?_)
    · have F := Lib.hid (show meetF a b c d = (0, 0, false) by unfold meetF; rw [if_neg (fun h => q h.2.1)])
      have q' : vld c d = false := by simpa using q
      rw [p] at V1
      rw [q'] at V2
      clear p q q'
      go_enter Try.func9, Try.ntmps9
      go_wp2_with fail
      refine (V1.out _).mono ?_
      rintro e W0 ⟨rfl, hb0⟩
      have hb := hb0
      clear hb0
      obtain ⟨hc, hf⟩ := bcell hb
      have hz := hb.size
      simp at hz
      have hz1 : w.heap.size + 1 + 1 < W0.heap.size := by omega
      go_wp2_with fail
      refine (V2.out _).mono ?_
      rintro e W1 ⟨rfl, hb1⟩
      replace hb := hb.trans (hb1.mono hb.size)
      clear hc hf hz hz1 hb1
      obtain ⟨hc, hf⟩ := bcell hb
      have hz := hb.size
      simp at hz
      have hz1 : w.heap.size + 1 + 1 < W1.heap.size := by omega
      go_wp2
      have hB := (three _ _ _ ).trans (hb.mono (three (w := w) _ _ _ ).size)
      refine bodyPost_ret (v := .tuple #[.agg #[.int .i64 (0), .int .i64 (0)], .bool false]) (by first | (simp [results, Try.results9, go_sem, hc]; done) | (simp [results, Try.results9, go_sem, hc, hz1]; done)) rfl (gives_mk F.out ?_)
      repeat (first | exact hB | refine Below.setCell ?_ (by simp; omega) _ | refine Below.alloc ?_ (by simp; omega) _ | refine Below.drew ?_)
  · have F := Lib.hid (show meetF a b c d = (0, 0, false) by unfold meetF; rw [if_neg (fun h => p h.1)])
    have p' : vld a b = false := by simpa using p
    rw [p'] at V1
    clear p p'
    go_enter Try.func9, Try.ntmps9
    go_wp2_with fail
    refine (V1.out _).mono ?_
    rintro e W0 ⟨rfl, hb0⟩
    have hb := hb0
    clear hb0
    obtain ⟨hc, hf⟩ := bcell hb
    have hz := hb.size
    simp at hz
    have hz1 : w.heap.size + 1 + 1 < W0.heap.size := by omega
    go_wp2
    have hB := (three _ _ _ ).trans (hb.mono (three (w := w) _ _ _ ).size)
    refine bodyPost_ret (v := .tuple #[.agg #[.int .i64 (0), .int .i64 (0)], .bool false]) (by first | (simp [results, Try.results9, go_sem, hc]; done) | (simp [results, Try.results9, go_sem, hc, hz1]; done)) rfl (gives_mk F.out ?_)
    repeat (first | exact hB | refine Below.setCell ?_ (by simp; omega) _ | refine Below.alloc ?_ (by simp; omega) _ | refine Below.drew ?_)

set_option maxHeartbeats 1600000 in
theorem rmeet_any (a b c d : Int) (w : World) : Calls Try.prog 10 #[.agg #[.int .i64 a, .int .i64 b], .agg #[.int .i64 c, .int .i64 d]] w (Gives w (meetF a b c d)) := by
  have V1 := Lib.hid (fun W => rvalid_any a b W)
  have V2 := Lib.hid (fun W => rvalid_any c d W)
  have V3 := Lib.hid (fun W => rvalid_any (max a c) (min b d) W)
  by_cases p : vld a b = true
  · by_cases q : vld c d = true
    · by_cases m : max a c ≤ min b d
      · have F := Lib.hid (show meetF a b c d = (max a c, min b d, true) by unfold meetF; rw [if_pos ⟨p, q, m⟩])
        have r : vld (max a c) (min b d) = true := by
          have h1 := vld_range p
          have h2 := vld_range q
          exact vld_mk (by omega) (by omega) m
        rw [r] at V3
        clear r
        rw [p] at V1
        rw [q] at V2
        clear p q
        go_enter Try.func10, Try.ntmps10
        go_wp2_with fail
        refine (V1.out _).mono ?_
        rintro e W0 ⟨rfl, hb0⟩
        have hb := hb0
        clear hb0
        obtain ⟨hc, hf⟩ := bcell hb
        have hz := hb.size
        simp at hz
        have hz1 : w.heap.size + 1 + 1 + 1 < W0.heap.size := by omega
        go_wp2_with fail
        refine (V2.out _).mono ?_
        rintro e W1 ⟨rfl, hb1⟩
        replace hb := hb.trans (hb1.mono hb.size)
        clear hc hf hz hz1 hb1
        obtain ⟨hc, hf⟩ := bcell hb
        have hz := hb.size
        simp at hz
        have hz1 : w.heap.size + 1 + 1 + 1 < W1.heap.size := by omega
        go_wp2_with fail
        refine (V3.out _).mono ?_
        rintro e W2 ⟨rfl, hb2⟩
        replace hb := hb.trans (hb2.mono hb.size)
        clear hc hf hz hz1 hb2
        obtain ⟨hc, hf⟩ := bcell hb
        have hz := hb.size
        simp at hz
        have hz1 : w.heap.size + 1 + 1 + 1 < W2.heap.size := by omega
        go_wp2
        have hB := (four_ _ _ _ _ ).trans (hb.mono (four_ (w := w) _ _ _ _ ).size)
        refine bodyPost_ret (v := .tuple #[.agg #[.int .i64 (max a c), .int .i64 (min b d)], .bool true]) (by first | (simp [results, Try.results10, go_sem, hc]; done) | (simp [results, Try.results10, go_sem, hc, hz1]; done)) rfl (gives_mk F.out ?_)
        repeat (first | exact hB | refine Below.setCell ?_ (by simp; omega) _ | refine Below.alloc ?_ (by simp; omega) _ | refine Below.drew ?_)
      · have F := Lib.hid (show meetF a b c d = (0, 0, false) by unfold meetF; rw [if_neg (fun h => m h.2.2)])
        have r : vld (max a c) (min b d) = false := by
          have : ¬ vld (max a c) (min b d) = true := fun h => m (vld_range h).2.2
          simpa using this
        rw [r] at V3
        clear r
        rw [p] at V1
        rw [q] at V2
        clear p q
        go_enter Try.func10, Try.ntmps10
        go_wp2_with fail
        refine (V1.out _).mono ?_
        rintro e W0 ⟨rfl, hb0⟩
        have hb := hb0
        clear hb0
        obtain ⟨hc, hf⟩ := bcell hb
        have hz := hb.size
        simp at hz
        have hz1 : w.heap.size + 1 + 1 + 1 < W0.heap.size := by omega
        go_wp2_with fail
        refine (V2.out _).mono ?_
        rintro e W1 ⟨rfl, hb1⟩
        replace hb := hb.trans (hb1.mono hb.size)
        clear hc hf hz hz1 hb1
        obtain ⟨hc, hf⟩ := bcell hb
        have hz := hb.size
        simp at hz
        have hz1 : w.heap.size + 1 + 1 + 1 < W1.heap.size := by omega
        go_wp2_with fail
        refine (V3.out _).mono ?_
        rintro e W2 ⟨rfl, hb2⟩
        replace hb := hb.trans (hb2.mono hb.size)
        clear hc hf hz hz1 hb2
        obtain ⟨hc, hf⟩ := bcell hb
        have hz := hb.size
        simp at hz
        have hz1 : w.heap.size + 1 + 1 + 1 < W2.heap.size := by omega
        go_wp2
        have hB := (four_ _ _ _ _ ).trans (hb.mono (four_ (w := w) _ _ _ _ ).size)
        refine bodyPost_ret (v := .tuple #[.agg #[.int .i64 (0), .int .i64 (0)], .bool false]) (by first | (simp [results, Try.results10, go_sem, hc]; done) | (simp [results, Try.results10, go_sem, hc, hz1]; done)) rfl (gives_mk F.out ?_)
        repeat (first | exact hB | refine Below.setCell ?_ (by simp; omega) _ | refine Below.alloc ?_ (by simp; omega) _ | refine Below.drew ?_)
    · have F := Lib.hid (show meetF a b c d = (0, 0, false) by unfold meetF; rw [if_neg (fun h => q h.2.1)])
      have q' : vld c d = false := by simpa using q
      rw [p] at V1
      rw [q'] at V2
      clear p q q'
      go_enter Try.func10, Try.ntmps10
      go_wp2_with fail
      refine (V1.out _).mono ?_
      rintro e W0 ⟨rfl, hb0⟩
      have hb := hb0
      clear hb0
      obtain ⟨hc, hf⟩ := bcell hb
      have hz := hb.size
      simp at hz
      have hz1 : w.heap.size + 1 + 1 + 1 < W0.heap.size := by omega
      go_wp2_with fail
      refine (V2.out _).mono ?_
      rintro e W1 ⟨rfl, hb1⟩
      replace hb := hb.trans (hb1.mono hb.size)
      clear hc hf hz hz1 hb1
      obtain ⟨hc, hf⟩ := bcell hb
      have hz := hb.size
      simp at hz
      have hz1 : w.heap.size + 1 + 1 + 1 < W1.heap.size := by omega
      go_wp2
      have hB := (four_ _ _ _ _ ).trans (hb.mono (four_ (w := w) _ _ _ _ ).size)
      refine bodyPost_ret (v := .tuple #[.agg #[.int .i64 (0), .int .i64 (0)], .bool false]) (by first | (simp [results, Try.results10, go_sem, hc]; done) | (simp [results, Try.results10, go_sem, hc, hz1]; done)) rfl (gives_mk F.out ?_)
      repeat (first | exact hB | refine Below.setCell ?_ (by simp; omega) _ | refine Below.alloc ?_ (by simp; omega) _ | refine Below.drew ?_)
  · have F := Lib.hid (show meetF a b c d = (0, 0, false) by unfold meetF; rw [if_neg (fun h => p h.1)])
    have p' : vld a b = false := by simpa using p
    rw [p'] at V1
    clear p p'
    go_enter Try.func10, Try.ntmps10
    go_wp2_with fail
    refine (V1.out _).mono ?_
    rintro e W0 ⟨rfl, hb0⟩
    have hb := hb0
    clear hb0
    obtain ⟨hc, hf⟩ := bcell hb
    have hz := hb.size
    simp at hz
    have hz1 : w.heap.size + 1 + 1 + 1 < W0.heap.size := by omega
    go_wp2
    have hB := (four_ _ _ _ _ ).trans (hb.mono (four_ (w := w) _ _ _ _ ).size)
    refine bodyPost_ret (v := .tuple #[.agg #[.int .i64 (0), .int .i64 (0)], .bool false]) (by first | (simp [results, Try.results10, go_sem, hc]; done) | (simp [results, Try.results10, go_sem, hc, hz1]; done)) rfl (gives_mk F.out ?_)
    repeat (first | exact hB | refine Below.setCell ?_ (by simp; omega) _ | refine Below.alloc ?_ (by simp; omega) _ | refine Below.drew ?_)

set_option maxHeartbeats 1600000 in
theorem add_any (a b c d : Int) (w : World) : Calls Try.prog 11 #[.agg #[.int .i64 a, .int .i64 b], .agg #[.int .i64 c, .int .i64 d]] w (Gives w (addF a b c d)) := by
  have V1 := Lib.hid (fun W => valid_any a b W)
  have V2 := Lib.hid (fun W => valid_any c d W)
  have V3 := Lib.hid (fun W => valid_any (a + c) (b + d) W)
  by_cases p : vld a b = true
  · by_cases q : vld c d = true
    · have h1 := vld_range p
      have h2 := vld_range q
      obtain ⟨⟨a1, a2⟩, ⟨b1, b2⟩, _⟩ := h1
      obtain ⟨⟨c1, c2⟩, ⟨d1, d2⟩, _⟩ := h2
      by_cases m : vld (a + c) (b + d) = true
      · have F := Lib.hid (show addF a b c d = (a + c, b + d, true) by unfold addF; rw [if_pos ⟨p, q, m⟩])
        rw [p] at V1
        rw [q] at V2
        rw [m] at V3
        clear p q m
        go_enter Try.func11, Try.ntmps11
        go_wp2_with fail
        refine (V1.out _).mono ?_
        rintro e W0 ⟨rfl, hb0⟩
        have hb := hb0
        clear hb0
        obtain ⟨hc, hf⟩ := bcell hb
        have hz := hb.size
        simp at hz
        have hz1 : w.heap.size + 1 + 1 < W0.heap.size := by omega
        go_wp2_with fail
        refine (V2.out _).mono ?_
        rintro e W1 ⟨rfl, hb1⟩
        replace hb := hb.trans (hb1.mono hb.size)
        clear hc hf hz hz1 hb1
        obtain ⟨hc, hf⟩ := bcell hb
        have hz := hb.size
        simp at hz
        have hz1 : w.heap.size + 1 + 1 < W1.heap.size := by omega
        go_wp2_with fail
        refine (V3.out _).mono ?_
        rintro e W2 ⟨rfl, hb2⟩
        have hz3 := hb.size
        simp at hz3
        have hz4 := hb2.size
        simp at hz4
        replace hb := (hb.alloc hb.size _).trans (hb2.mono (hb.alloc hb.size _).size)
        clear hc hf hz hz1
        obtain ⟨hc2, hf2⟩ := bcell hb2
        have hz5 : W1.heap.size < W2.heap.size := by omega
        obtain ⟨hc, hf⟩ := bcell hb
        have hz := hb.size
        simp at hz
        have hz1 : w.heap.size + 1 + 1 < W2.heap.size := by omega
        go_wp2
        have hB := (three _ _ _ ).trans (hb.mono (three (w := w) _ _ _ ).size)
        refine bodyPost_ret (v := .tuple #[.agg #[.int .i64 (a + c), .int .i64 (b + d)], .bool true]) (by first | (simp [results, Try.results11, go_sem, hc]; done) | (simp [results, Try.results11, go_sem, hc, hz1]; done)) rfl (gives_mk F.out ?_)
        repeat (first | exact hB | refine Below.setCell ?_ (by simp; omega) _ | refine Below.alloc ?_ (by simp; omega) _ | refine Below.drew ?_)
      · have F := Lib.hid (show addF a b c d = (0, 0, false) by unfold addF; rw [if_neg (fun h => m h.2.2)])
        have m' : vld (a + c) (b + d) = false := by simpa using m
        rw [p] at V1
        rw [q] at V2
        rw [m'] at V3
        clear p q m m'
        go_enter Try.func11, Try.ntmps11
        go_wp2_with fail
        refine (V1.out _).mono ?_
        rintro e W0 ⟨rfl, hb0⟩
        have hb := hb0
        clear hb0
        obtain ⟨hc, hf⟩ := bcell hb
        have hz := hb.size
        simp at hz
        have hz1 : w.heap.size + 1 + 1 < W0.heap.size := by omega
        go_wp2_with fail
        refine (V2.out _).mono ?_
        rintro e W1 ⟨rfl, hb1⟩
        replace hb := hb.trans (hb1.mono hb.size)
        clear hc hf hz hz1 hb1
        obtain ⟨hc, hf⟩ := bcell hb
        have hz := hb.size
        simp at hz
        have hz1 : w.heap.size + 1 + 1 < W1.heap.size := by omega
        go_wp2_with fail
        refine (V3.out _).mono ?_
        rintro e W2 ⟨rfl, hb2⟩
        have hz3 := hb.size
        simp at hz3
        have hz4 := hb2.size
        simp at hz4
        replace hb := (hb.alloc hb.size _).trans (hb2.mono (hb.alloc hb.size _).size)
        clear hc hf hz hz1
        obtain ⟨hc2, hf2⟩ := bcell hb2
        have hz5 : W1.heap.size < W2.heap.size := by omega
        obtain ⟨hc, hf⟩ := bcell hb
        have hz := hb.size
        simp at hz
        have hz1 : w.heap.size + 1 + 1 < W2.heap.size := by omega
        go_wp2
        have hB := (three _ _ _ ).trans (hb.mono (three (w := w) _ _ _ ).size)
        refine bodyPost_ret (v := .tuple #[.agg #[.int .i64 (0), .int .i64 (0)], .bool false]) (by first | (simp [results, Try.results11, go_sem, hc]; done) | (simp [results, Try.results11, go_sem, hc, hz1]; done)) rfl (gives_mk F.out ?_)
        repeat (first | exact hB | refine Below.setCell ?_ (by simp; omega) _ | refine Below.alloc ?_ (by simp; omega) _ | refine Below.drew ?_)
    · have F := Lib.hid (show addF a b c d = (0, 0, false) by unfold addF; rw [if_neg (fun h => q h.2.1)])
      have q' : vld c d = false := by simpa using q
      rw [p] at V1
      rw [q'] at V2
      clear p q q'
      go_enter Try.func11, Try.ntmps11
      go_wp2_with fail
      refine (V1.out _).mono ?_
      rintro e W0 ⟨rfl, hb0⟩
      have hb := hb0
      clear hb0
      obtain ⟨hc, hf⟩ := bcell hb
      have hz := hb.size
      simp at hz
      have hz1 : w.heap.size + 1 + 1 < W0.heap.size := by omega
      go_wp2_with fail
      refine (V2.out _).mono ?_
      rintro e W1 ⟨rfl, hb1⟩
      replace hb := hb.trans (hb1.mono hb.size)
      clear hc hf hz hz1 hb1
      obtain ⟨hc, hf⟩ := bcell hb
      have hz := hb.size
      simp at hz
      have hz1 : w.heap.size + 1 + 1 < W1.heap.size := by omega
      go_wp2
      have hB := (three _ _ _ ).trans (hb.mono (three (w := w) _ _ _ ).size)
      refine bodyPost_ret (v := .tuple #[.agg #[.int .i64 (0), .int .i64 (0)], .bool false]) (by first | (simp [results, Try.results11, go_sem, hc]; done) | (simp [results, Try.results11, go_sem, hc, hz1]; done)) rfl (gives_mk F.out ?_)
      repeat (first | exact hB | refine Below.setCell ?_ (by simp; omega) _ | refine Below.alloc ?_ (by simp; omega) _ | refine Below.drew ?_)
  · have F := Lib.hid (show addF a b c d = (0, 0, false) by unfold addF; rw [if_neg (fun h => p h.1)])
    have p' : vld a b = false := by simpa using p
    rw [p'] at V1
    clear p p'
    go_enter Try.func11, Try.ntmps11
    go_wp2_with fail
    refine (V1.out _).mono ?_
    rintro e W0 ⟨rfl, hb0⟩
    have hb := hb0
    clear hb0
    obtain ⟨hc, hf⟩ := bcell hb
    have hz := hb.size
    simp at hz
    have hz1 : w.heap.size + 1 + 1 < W0.heap.size := by omega
    go_wp2
    have hB := (three _ _ _ ).trans (hb.mono (three (w := w) _ _ _ ).size)
    refine bodyPost_ret (v := .tuple #[.agg #[.int .i64 (0), .int .i64 (0)], .bool false]) (by first | (simp [results, Try.results11, go_sem, hc]; done) | (simp [results, Try.results11, go_sem, hc, hz1]; done)) rfl (gives_mk F.out ?_)
    repeat (first | exact hB | refine Below.setCell ?_ (by simp; omega) _ | refine Below.alloc ?_ (by simp; omega) _ | refine Below.drew ?_)

set_option maxHeartbeats 1600000 in
theorem radd_any (a b c d : Int) (w : World) : Calls Try.prog 12 #[.agg #[.int .i64 a, .int .i64 b], .agg #[.int .i64 c, .int .i64 d]] w (Gives w (addF a b c d)) := by
  have V1 := Lib.hid (fun W => rvalid_any a b W)
  have V2 := Lib.hid (fun W => rvalid_any c d W)
  have V3 := Lib.hid (fun W => rvalid_any (a + c) (b + d) W)
  by_cases p : vld a b = true
  · by_cases q : vld c d = true
    · have h1 := vld_range p
      have h2 := vld_range q
      obtain ⟨⟨a1, a2⟩, ⟨b1, b2⟩, _⟩ := h1
      obtain ⟨⟨c1, c2⟩, ⟨d1, d2⟩, _⟩ := h2
      by_cases m : vld (a + c) (b + d) = true
      · have F := Lib.hid (show addF a b c d = (a + c, b + d, true) by unfold addF; rw [if_pos ⟨p, q, m⟩])
        rw [p] at V1
        rw [q] at V2
        rw [m] at V3
        clear p q m
        go_enter Try.func12, Try.ntmps12
        go_wp2_with fail
        refine (V1.out _).mono ?_
        rintro e W0 ⟨rfl, hb0⟩
        have hb := hb0
        clear hb0
        obtain ⟨hc, hf⟩ := bcell hb
        have hz := hb.size
        simp at hz
        have hz1 : w.heap.size + 1 + 1 < W0.heap.size := by omega
        go_wp2_with fail
        refine (V2.out _).mono ?_
        rintro e W1 ⟨rfl, hb1⟩
        replace hb := hb.trans (hb1.mono hb.size)
        clear hc hf hz hz1 hb1
        obtain ⟨hc, hf⟩ := bcell hb
        have hz := hb.size
        simp at hz
        have hz1 : w.heap.size + 1 + 1 < W1.heap.size := by omega
        go_wp2_with fail
        refine (V3.out _).mono ?_
        rintro e W2 ⟨rfl, hb2⟩
        have hz3 := hb.size
        simp at hz3
        have hz4 := hb2.size
        simp at hz4
        replace hb := (hb.alloc hb.size _).trans (hb2.mono (hb.alloc hb.size _).size)
        clear hc hf hz hz1
        obtain ⟨hc2, hf2⟩ := bcell hb2
        have hz5 : W1.heap.size < W2.heap.size := by omega
        obtain ⟨hc, hf⟩ := bcell hb
        have hz := hb.size
        simp at hz
        have hz1 : w.heap.size + 1 + 1 < W2.heap.size := by omega
        go_wp2
        have hB := (three _ _ _ ).trans (hb.mono (three (w := w) _ _ _ ).size)
        refine bodyPost_ret (v := .tuple #[.agg #[.int .i64 (a + c), .int .i64 (b + d)], .bool true]) (by first | (simp [results, Try.results12, go_sem, hc]; done) | (simp [results, Try.results12, go_sem, hc, hz1]; done)) rfl (gives_mk F.out ?_)
        repeat (first | exact hB | refine Below.setCell ?_ (by simp; omega) _ | refine Below.alloc ?_ (by simp; omega) _ | refine Below.drew ?_)
      · have F := Lib.hid (show addF a b c d = (0, 0, false) by unfold addF; rw [if_neg (fun h => m h.2.2)])
        have m' : vld (a + c) (b + d) = false := by simpa using m
        rw [p] at V1
        rw [q] at V2
        rw [m'] at V3
        clear p q m m'
        go_enter Try.func12, Try.ntmps12
        go_wp2_with fail
        refine (V1.out _).mono ?_
        rintro e W0 ⟨rfl, hb0⟩
        have hb := hb0
        clear hb0
        obtain ⟨hc, hf⟩ := bcell hb
        have hz := hb.size
        simp at hz
        have hz1 : w.heap.size + 1 + 1 < W0.heap.size := by omega
        go_wp2_with fail
        refine (V2.out _).mono ?_
        rintro e W1 ⟨rfl, hb1⟩
        replace hb := hb.trans (hb1.mono hb.size)
        clear hc hf hz hz1 hb1
        obtain ⟨hc, hf⟩ := bcell hb
        have hz := hb.size
        simp at hz
        have hz1 : w.heap.size + 1 + 1 < W1.heap.size := by omega
        go_wp2_with fail
        refine (V3.out _).mono ?_
        rintro e W2 ⟨rfl, hb2⟩
        have hz3 := hb.size
        simp at hz3
        have hz4 := hb2.size
        simp at hz4
        replace hb := (hb.alloc hb.size _).trans (hb2.mono (hb.alloc hb.size _).size)
        clear hc hf hz hz1
        obtain ⟨hc2, hf2⟩ := bcell hb2
        have hz5 : W1.heap.size < W2.heap.size := by omega
        obtain ⟨hc, hf⟩ := bcell hb
        have hz := hb.size
        simp at hz
        have hz1 : w.heap.size + 1 + 1 < W2.heap.size := by omega
        go_wp2
        have hB := (three _ _ _ ).trans (hb.mono (three (w := w) _ _ _ ).size)
        refine bodyPost_ret (v := .tuple #[.agg #[.int .i64 (0), .int .i64 (0)], .bool false]) (by first | (simp [results, Try.results12, go_sem, hc]; done) | (simp [results, Try.results12, go_sem, hc, hz1]; done)) rfl (gives_mk F.out ?_)
        repeat (first | exact hB | refine Below.setCell ?_ (by simp; omega) _ | refine Below.alloc ?_ (by simp; omega) _ | refine Below.drew ?_)
    · have F := Lib.hid (show addF a b c d = (0, 0, false) by unfold addF; rw [if_neg (fun h => q h.2.1)])
      have q' : vld c d = false := by simpa using q
      rw [p] at V1
      rw [q'] at V2
      clear p q q'
      go_enter Try.func12, Try.ntmps12
      go_wp2_with fail
      refine (V1.out _).mono ?_
      rintro e W0 ⟨rfl, hb0⟩
      have hb := hb0
      clear hb0
      obtain ⟨hc, hf⟩ := bcell hb
      have hz := hb.size
      simp at hz
      have hz1 : w.heap.size + 1 + 1 < W0.heap.size := by omega
      go_wp2_with fail
      refine (V2.out _).mono ?_
      rintro e W1 ⟨rfl, hb1⟩
      replace hb := hb.trans (hb1.mono hb.size)
      clear hc hf hz hz1 hb1
      obtain ⟨hc, hf⟩ := bcell hb
      have hz := hb.size
      simp at hz
      have hz1 : w.heap.size + 1 + 1 < W1.heap.size := by omega
      go_wp2
      have hB := (three _ _ _ ).trans (hb.mono (three (w := w) _ _ _ ).size)
      refine bodyPost_ret (v := .tuple #[.agg #[.int .i64 (0), .int .i64 (0)], .bool false]) (by first | (simp [results, Try.results12, go_sem, hc]; done) | (simp [results, Try.results12, go_sem, hc, hz1]; done)) rfl (gives_mk F.out ?_)
      repeat (first | exact hB | refine Below.setCell ?_ (by simp; omega) _ | refine Below.alloc ?_ (by simp; omega) _ | refine Below.drew ?_)
  · have F := Lib.hid (show addF a b c d = (0, 0, false) by unfold addF; rw [if_neg (fun h => p h.1)])
    have p' : vld a b = false := by simpa using p
    rw [p'] at V1
    clear p p'
    go_enter Try.func12, Try.ntmps12
    go_wp2_with fail
    refine (V1.out _).mono ?_
    rintro e W0 ⟨rfl, hb0⟩
    have hb := hb0
    clear hb0
    obtain ⟨hc, hf⟩ := bcell hb
    have hz := hb.size
    simp at hz
    have hz1 : w.heap.size + 1 + 1 < W0.heap.size := by omega
    go_wp2
    have hB := (three _ _ _ ).trans (hb.mono (three (w := w) _ _ _ ).size)
    refine bodyPost_ret (v := .tuple #[.agg #[.int .i64 (0), .int .i64 (0)], .bool false]) (by first | (simp [results, Try.results12, go_sem, hc]; done) | (simp [results, Try.results12, go_sem, hc, hz1]; done)) rfl (gives_mk F.out ?_)
    repeat (first | exact hB | refine Below.setCell ?_ (by simp; omega) _ | refine Below.alloc ?_ (by simp; omega) _ | refine Below.drew ?_)

set_option maxHeartbeats 1600000 in
theorem hull_any (a b c d : Int) (w : World) : Calls Try.prog 15 #[.agg #[.int .i64 a, .int .i64 b], .agg #[.int .i64 c, .int .i64 d]] w (Gives2 w (hullF a b c d)) := by
  have V1 := Lib.hid (fun W => valid_any a b W)
  have V2 := Lib.hid (fun W => valid_any c d W)
  by_cases p : vld a b = true
  · by_cases q : vld c d = true
    · have F := Lib.hid (show hullF a b c d = (min a c, max b d) by unfold hullF; rw [if_pos p, if_pos q])
      have p' : vld a b = true := by simpa using p
      have q' : vld c d = true := by simpa using q
      rw [p'] at V1
      rw [q'] at V2
      clear p q p' q'
      go_enter Try.func15, Try.ntmps15
      go_wp2_with fail
      refine (V1.out _).mono ?_
      rintro e W0 ⟨rfl, hb0⟩
      have hb := hb0
      clear hb0
      obtain ⟨hc, hf⟩ := bcell hb
      have hz := hb.size
      simp at hz
      have hz1 : w.heap.size + 1 + 1 < W0.heap.size := by omega
      go_wp2_with fail
      refine (V2.out _).mono ?_
      rintro e W1 ⟨rfl, hb1⟩
      replace hb := hb.trans (hb1.mono hb.size)
      clear hc hf hz hz1 hb1
      obtain ⟨hc, hf⟩ := bcell hb
      have hz := hb.size
      simp at hz
      have hz1 : w.heap.size + 1 + 1 < W1.heap.size := by omega
      go_wp2
      have hB := (three _ _ _ ).trans (hb.mono (three (w := w) _ _ _ ).size)
      refine bodyPost_ret (v := .agg #[.int .i64 (min a c), .int .i64 (max b d)]) (by first | (simp [results, Try.results15, go_sem, hc]; done) | (simp [results, Try.results15, go_sem, hc, hz1]; done)) rfl (gives2_mk F.out ?_)
      repeat (first | exact hB | refine Below.setCell ?_ (by simp; omega) _ | refine Below.alloc ?_ (by simp; omega) _ | refine Below.drew ?_)
    · have F := Lib.hid (show hullF a b c d = (a, b) by unfold hullF; rw [if_pos p, if_neg q])
      have p' : vld a b = true := by simpa using p
      have q' : vld c d = false := by simpa using q
      rw [p'] at V1
      rw [q'] at V2
      clear p q p' q'
      go_enter Try.func15, Try.ntmps15
      go_wp2_with fail
      refine (V1.out _).mono ?_
      rintro e W0 ⟨rfl, hb0⟩
      have hb := hb0
      clear hb0
      obtain ⟨hc, hf⟩ := bcell hb
      have hz := hb.size
      simp at hz
      have hz1 : w.heap.size + 1 + 1 < W0.heap.size := by omega
      go_wp2_with fail
      refine (V2.out _).mono ?_
      rintro e W1 ⟨rfl, hb1⟩
      replace hb := hb.trans (hb1.mono hb.size)
      clear hc hf hz hz1 hb1
      obtain ⟨hc, hf⟩ := bcell hb
      have hz := hb.size
      simp at hz
      have hz1 : w.heap.size + 1 + 1 < W1.heap.size := by omega
      go_wp2_with fail
      refine (V1.out _).mono ?_
      rintro e W2 ⟨rfl, hb2⟩
      replace hb := hb.trans (hb2.mono hb.size)
      clear hc hf hz hz1 hb2
      obtain ⟨hc, hf⟩ := bcell hb
      have hz := hb.size
      simp at hz
      have hz1 : w.heap.size + 1 + 1 < W2.heap.size := by omega
      go_wp2
      have hB := (three _ _ _ ).trans (hb.mono (three (w := w) _ _ _ ).size)
      refine bodyPost_ret (v := .agg #[.int .i64 (a), .int .i64 (b)]) (by first | (simp [results, Try.results15, go_sem, hc]; done) | (simp [results, Try.results15, go_sem, hc, hz1]; done)) rfl (gives2_mk F.out ?_)
      repeat (first | exact hB | refine Below.setCell ?_ (by simp; omega) _ | refine Below.alloc ?_ (by simp; omega) _ | refine Below.drew ?_)
  · by_cases q : vld c d = true
    · have F := Lib.hid (show hullF a b c d = (c, d) by unfold hullF; rw [if_neg p, if_pos q])
      have p' : vld a b = false := by simpa using p
      have q' : vld c d = true := by simpa using q
      rw [p'] at V1
      rw [q'] at V2
      clear p q p' q'
      go_enter Try.func15, Try.ntmps15
      go_wp2_with fail
      refine (V1.out _).mono ?_
      rintro e W0 ⟨rfl, hb0⟩
      have hb := hb0
      clear hb0
      obtain ⟨hc, hf⟩ := bcell hb
      have hz := hb.size
      simp at hz
      have hz1 : w.heap.size + 1 + 1 < W0.heap.size := by omega
      go_wp2_with fail
      refine (V1.out _).mono ?_
      rintro e W1 ⟨rfl, hb1⟩
      replace hb := hb.trans (hb1.mono hb.size)
      clear hc hf hz hz1 hb1
      obtain ⟨hc, hf⟩ := bcell hb
      have hz := hb.size
      simp at hz
      have hz1 : w.heap.size + 1 + 1 < W1.heap.size := by omega
      go_wp2_with fail
      refine (V2.out _).mono ?_
      rintro e W2 ⟨rfl, hb2⟩
      replace hb := hb.trans (hb2.mono hb.size)
      clear hc hf hz hz1 hb2
      obtain ⟨hc, hf⟩ := bcell hb
      have hz := hb.size
      simp at hz
      have hz1 : w.heap.size + 1 + 1 < W2.heap.size := by omega
      go_wp2
      have hB := (three _ _ _ ).trans (hb.mono (three (w := w) _ _ _ ).size)
      refine bodyPost_ret (v := .agg #[.int .i64 (c), .int .i64 (d)]) (by first | (simp [results, Try.results15, go_sem, hc]; done) | (simp [results, Try.results15, go_sem, hc, hz1]; done)) rfl (gives2_mk F.out ?_)
      repeat (first | exact hB | refine Below.setCell ?_ (by simp; omega) _ | refine Below.alloc ?_ (by simp; omega) _ | refine Below.drew ?_)
    · have F := Lib.hid (show hullF a b c d = (0, 0) by unfold hullF; rw [if_neg p, if_neg q])
      have p' : vld a b = false := by simpa using p
      have q' : vld c d = false := by simpa using q
      rw [p'] at V1
      rw [q'] at V2
      clear p q p' q'
      go_enter Try.func15, Try.ntmps15
      go_wp2_with fail
      refine (V1.out _).mono ?_
      rintro e W0 ⟨rfl, hb0⟩
      have hb := hb0
      clear hb0
      obtain ⟨hc, hf⟩ := bcell hb
      have hz := hb.size
      simp at hz
      have hz1 : w.heap.size + 1 + 1 < W0.heap.size := by omega
      go_wp2_with fail
      refine (V1.out _).mono ?_
      rintro e W1 ⟨rfl, hb1⟩
      replace hb := hb.trans (hb1.mono hb.size)
      clear hc hf hz hz1 hb1
      obtain ⟨hc, hf⟩ := bcell hb
      have hz := hb.size
      simp at hz
      have hz1 : w.heap.size + 1 + 1 < W1.heap.size := by omega
      go_wp2_with fail
      refine (V2.out _).mono ?_
      rintro e W2 ⟨rfl, hb2⟩
      replace hb := hb.trans (hb2.mono hb.size)
      clear hc hf hz hz1 hb2
      obtain ⟨hc, hf⟩ := bcell hb
      have hz := hb.size
      simp at hz
      have hz1 : w.heap.size + 1 + 1 < W2.heap.size := by omega
      go_wp2
      have hB := (three _ _ _ ).trans (hb.mono (three (w := w) _ _ _ ).size)
      refine bodyPost_ret (v := .agg #[.int .i64 (0), .int .i64 (0)]) (by first | (simp [results, Try.results15, go_sem, hc]; done) | (simp [results, Try.results15, go_sem, hc, hz1]; done)) rfl (gives2_mk F.out ?_)
      repeat (first | exact hB | refine Below.setCell ?_ (by simp; omega) _ | refine Below.alloc ?_ (by simp; omega) _ | refine Below.drew ?_)

set_option maxHeartbeats 1600000 in
theorem rhull_any (a b c d : Int) (w : World) : Calls Try.prog 16 #[.agg #[.int .i64 a, .int .i64 b], .agg #[.int .i64 c, .int .i64 d]] w (Gives2 w (hullF a b c d)) := by
  have V1 := Lib.hid (fun W => rvalid_any a b W)
  have V2 := Lib.hid (fun W => rvalid_any c d W)
  by_cases p : vld a b = true
  · by_cases q : vld c d = true
    · have F := Lib.hid (show hullF a b c d = (min a c, max b d) by unfold hullF; rw [if_pos p, if_pos q])
      have p' : vld a b = true := by simpa using p
      have q' : vld c d = true := by simpa using q
      rw [p'] at V1
      rw [q'] at V2
      clear p q p' q'
      go_enter Try.func16, Try.ntmps16
      go_wp2_with fail
      refine (V1.out _).mono ?_
      rintro e W0 ⟨rfl, hb0⟩
      have hb := hb0
      clear hb0
      obtain ⟨hc, hf⟩ := bcell hb
      have hz := hb.size
      simp at hz
      have hz1 : w.heap.size + 1 + 1 < W0.heap.size := by omega
      go_wp2_with fail
      refine (V2.out _).mono ?_
      rintro e W1 ⟨rfl, hb1⟩
      replace hb := hb.trans (hb1.mono hb.size)
      clear hc hf hz hz1 hb1
      obtain ⟨hc, hf⟩ := bcell hb
      have hz := hb.size
      simp at hz
      have hz1 : w.heap.size + 1 + 1 < W1.heap.size := by omega
      go_wp2
      have hB := (three _ _ _ ).trans (hb.mono (three (w := w) _ _ _ ).size)
      refine bodyPost_ret (v := .agg #[.int .i64 (min a c), .int .i64 (max b d)]) (by first | (simp [results, Try.results16, go_sem, hc]; done) | (simp [results, Try.results16, go_sem, hc, hz1]; done)) rfl (gives2_mk F.out ?_)
      repeat (first | exact hB | refine Below.setCell ?_ (by simp; omega) _ | refine Below.alloc ?_ (by simp; omega) _ | refine Below.drew ?_)
    · have F := Lib.hid (show hullF a b c d = (a, b) by unfold hullF; rw [if_pos p, if_neg q])
      have p' : vld a b = true := by simpa using p
      have q' : vld c d = false := by simpa using q
      rw [p'] at V1
      rw [q'] at V2
      clear p q p' q'
      go_enter Try.func16, Try.ntmps16
      go_wp2_with fail
      refine (V1.out _).mono ?_
      rintro e W0 ⟨rfl, hb0⟩
      have hb := hb0
      clear hb0
      obtain ⟨hc, hf⟩ := bcell hb
      have hz := hb.size
      simp at hz
      have hz1 : w.heap.size + 1 + 1 < W0.heap.size := by omega
      go_wp2_with fail
      refine (V2.out _).mono ?_
      rintro e W1 ⟨rfl, hb1⟩
      replace hb := hb.trans (hb1.mono hb.size)
      clear hc hf hz hz1 hb1
      obtain ⟨hc, hf⟩ := bcell hb
      have hz := hb.size
      simp at hz
      have hz1 : w.heap.size + 1 + 1 < W1.heap.size := by omega
      go_wp2_with fail
      refine (V1.out _).mono ?_
      rintro e W2 ⟨rfl, hb2⟩
      replace hb := hb.trans (hb2.mono hb.size)
      clear hc hf hz hz1 hb2
      obtain ⟨hc, hf⟩ := bcell hb
      have hz := hb.size
      simp at hz
      have hz1 : w.heap.size + 1 + 1 < W2.heap.size := by omega
      go_wp2
      have hB := (three _ _ _ ).trans (hb.mono (three (w := w) _ _ _ ).size)
      refine bodyPost_ret (v := .agg #[.int .i64 (a), .int .i64 (b)]) (by first | (simp [results, Try.results16, go_sem, hc]; done) | (simp [results, Try.results16, go_sem, hc, hz1]; done)) rfl (gives2_mk F.out ?_)
      repeat (first | exact hB | refine Below.setCell ?_ (by simp; omega) _ | refine Below.alloc ?_ (by simp; omega) _ | refine Below.drew ?_)
  · by_cases q : vld c d = true
    · have F := Lib.hid (show hullF a b c d = (c, d) by unfold hullF; rw [if_neg p, if_pos q])
      have p' : vld a b = false := by simpa using p
      have q' : vld c d = true := by simpa using q
      rw [p'] at V1
      rw [q'] at V2
      clear p q p' q'
      go_enter Try.func16, Try.ntmps16
      go_wp2_with fail
      refine (V1.out _).mono ?_
      rintro e W0 ⟨rfl, hb0⟩
      have hb := hb0
      clear hb0
      obtain ⟨hc, hf⟩ := bcell hb
      have hz := hb.size
      simp at hz
      have hz1 : w.heap.size + 1 + 1 < W0.heap.size := by omega
      go_wp2_with fail
      refine (V1.out _).mono ?_
      rintro e W1 ⟨rfl, hb1⟩
      replace hb := hb.trans (hb1.mono hb.size)
      clear hc hf hz hz1 hb1
      obtain ⟨hc, hf⟩ := bcell hb
      have hz := hb.size
      simp at hz
      have hz1 : w.heap.size + 1 + 1 < W1.heap.size := by omega
      go_wp2_with fail
      refine (V2.out _).mono ?_
      rintro e W2 ⟨rfl, hb2⟩
      replace hb := hb.trans (hb2.mono hb.size)
      clear hc hf hz hz1 hb2
      obtain ⟨hc, hf⟩ := bcell hb
      have hz := hb.size
      simp at hz
      have hz1 : w.heap.size + 1 + 1 < W2.heap.size := by omega
      go_wp2
      have hB := (three _ _ _ ).trans (hb.mono (three (w := w) _ _ _ ).size)
      refine bodyPost_ret (v := .agg #[.int .i64 (c), .int .i64 (d)]) (by first | (simp [results, Try.results16, go_sem, hc]; done) | (simp [results, Try.results16, go_sem, hc, hz1]; done)) rfl (gives2_mk F.out ?_)
      repeat (first | exact hB | refine Below.setCell ?_ (by simp; omega) _ | refine Below.alloc ?_ (by simp; omega) _ | refine Below.drew ?_)
    · have F := Lib.hid (show hullF a b c d = (0, 0) by unfold hullF; rw [if_neg p, if_neg q])
      have p' : vld a b = false := by simpa using p
      have q' : vld c d = false := by simpa using q
      rw [p'] at V1
      rw [q'] at V2
      clear p q p' q'
      go_enter Try.func16, Try.ntmps16
      go_wp2_with fail
      refine (V1.out _).mono ?_
      rintro e W0 ⟨rfl, hb0⟩
      have hb := hb0
      clear hb0
      obtain ⟨hc, hf⟩ := bcell hb
      have hz := hb.size
      simp at hz
      have hz1 : w.heap.size + 1 + 1 < W0.heap.size := by omega
      go_wp2_with fail
      refine (V1.out _).mono ?_
      rintro e W1 ⟨rfl, hb1⟩
      replace hb := hb.trans (hb1.mono hb.size)
      clear hc hf hz hz1 hb1
      obtain ⟨hc, hf⟩ := bcell hb
      have hz := hb.size
      simp at hz
      have hz1 : w.heap.size + 1 + 1 < W1.heap.size := by omega
      go_wp2_with fail
      refine (V2.out _).mono ?_
      rintro e W2 ⟨rfl, hb2⟩
      replace hb := hb.trans (hb2.mono hb.size)
      clear hc hf hz hz1 hb2
      obtain ⟨hc, hf⟩ := bcell hb
      have hz := hb.size
      simp at hz
      have hz1 : w.heap.size + 1 + 1 < W2.heap.size := by omega
      go_wp2
      have hB := (three _ _ _ ).trans (hb.mono (three (w := w) _ _ _ ).size)
      refine bodyPost_ret (v := .agg #[.int .i64 (0), .int .i64 (0)]) (by first | (simp [results, Try.results16, go_sem, hc]; done) | (simp [results, Try.results16, go_sem, hc, hz1]; done)) rfl (gives2_mk F.out ?_)
      repeat (first | exact hB | refine Below.setCell ?_ (by simp; omega) _ | refine Below.alloc ?_ (by simp; omega) _ | refine Below.drew ?_)

set_option maxHeartbeats 1600000 in
theorem before_any (a b c d : Int) (w : World) : Calls Try.prog 17 #[.agg #[.int .i64 a, .int .i64 b], .agg #[.int .i64 c, .int .i64 d]] w fun e w' => e = .returned (.bool (beforeF a b c d)) ∧ Below w.heap.size w w' := by
  have V1 := Lib.hid (fun W => valid_any a b W)
  have V2 := Lib.hid (fun W => valid_any c d W)
  unfold beforeF
  generalize vld a b = p at *
  generalize vld c d = q at *
  cases p
  · go_enter Try.func17, Try.ntmps17
    go_wp2_with fail
    refine (V1.out _).mono ?_
    rintro e W0 ⟨rfl, hb0⟩
    have hb := hb0
    clear hb0
    obtain ⟨hc, hf⟩ := bcell hb
    have hz := hb.size
    simp at hz
    have hz1 : w.heap.size + 1 < W0.heap.size := by omega
    go_wp2
    have hB := (two_ _ _ ).trans (hb.mono (two_ (w := w) _ _ ).size)
    go_ret
    exact ⟨ret_bool (by simp), hB⟩
  · cases q
    · go_enter Try.func17, Try.ntmps17
      go_wp2_with fail
      refine (V1.out _).mono ?_
      rintro e W0 ⟨rfl, hb0⟩
      have hb := hb0
      clear hb0
      obtain ⟨hc, hf⟩ := bcell hb
      have hz := hb.size
      simp at hz
      have hz1 : w.heap.size + 1 < W0.heap.size := by omega
      go_wp2_with fail
      refine (V2.out _).mono ?_
      rintro e W1 ⟨rfl, hb1⟩
      replace hb := hb.trans (hb1.mono hb.size)
      clear hc hf hz hz1 hb1
      obtain ⟨hc, hf⟩ := bcell hb
      have hz := hb.size
      simp at hz
      have hz1 : w.heap.size + 1 < W1.heap.size := by omega
      go_wp2
      have hB := (two_ _ _ ).trans (hb.mono (two_ (w := w) _ _ ).size)
      go_ret
      exact ⟨ret_bool (by simp), hB⟩
    · go_enter Try.func17, Try.ntmps17
      go_wp2_with fail
      refine (V1.out _).mono ?_
      rintro e W0 ⟨rfl, hb0⟩
      have hb := hb0
      clear hb0
      obtain ⟨hc, hf⟩ := bcell hb
      have hz := hb.size
      simp at hz
      have hz1 : w.heap.size + 1 < W0.heap.size := by omega
      go_wp2_with fail
      refine (V2.out _).mono ?_
      rintro e W1 ⟨rfl, hb1⟩
      replace hb := hb.trans (hb1.mono hb.size)
      clear hc hf hz hz1 hb1
      obtain ⟨hc, hf⟩ := bcell hb
      have hz := hb.size
      simp at hz
      have hz1 : w.heap.size + 1 < W1.heap.size := by omega
      go_wp2
      have hB := (two_ _ _ ).trans (hb.mono (two_ (w := w) _ _ ).size)
      go_ret
      exact ⟨ret_bool (by simp), hB⟩

set_option maxHeartbeats 1600000 in
theorem rbefore_any (a b c d : Int) (w : World) : Calls Try.prog 18 #[.agg #[.int .i64 a, .int .i64 b], .agg #[.int .i64 c, .int .i64 d]] w fun e w' => e = .returned (.bool (beforeF a b c d)) ∧ Below w.heap.size w w' := by
  have V1 := Lib.hid (fun W => rvalid_any a b W)
  have V2 := Lib.hid (fun W => rvalid_any c d W)
  unfold beforeF
  generalize vld a b = p at *
  generalize vld c d = q at *
  cases p
  · go_enter Try.func18, Try.ntmps18
    go_wp2_with fail
    refine (V1.out _).mono ?_
    rintro e W0 ⟨rfl, hb0⟩
    have hb := hb0
    clear hb0
    obtain ⟨hc, hf⟩ := bcell hb
    have hz := hb.size
    simp at hz
    have hz1 : w.heap.size + 1 < W0.heap.size := by omega
    go_wp2
    have hB := (two_ _ _ ).trans (hb.mono (two_ (w := w) _ _ ).size)
    go_ret
    exact ⟨ret_bool (by simp), hB⟩
  · cases q
    · go_enter Try.func18, Try.ntmps18
      go_wp2_with fail
      refine (V1.out _).mono ?_
      rintro e W0 ⟨rfl, hb0⟩
      have hb := hb0
      clear hb0
      obtain ⟨hc, hf⟩ := bcell hb
      have hz := hb.size
      simp at hz
      have hz1 : w.heap.size + 1 < W0.heap.size := by omega
      go_wp2_with fail
      refine (V2.out _).mono ?_
      rintro e W1 ⟨rfl, hb1⟩
      replace hb := hb.trans (hb1.mono hb.size)
      clear hc hf hz hz1 hb1
      obtain ⟨hc, hf⟩ := bcell hb
      have hz := hb.size
      simp at hz
      have hz1 : w.heap.size + 1 < W1.heap.size := by omega
      go_wp2
      have hB := (two_ _ _ ).trans (hb.mono (two_ (w := w) _ _ ).size)
      go_ret
      exact ⟨ret_bool (by simp), hB⟩
    · go_enter Try.func18, Try.ntmps18
      go_wp2_with fail
      refine (V1.out _).mono ?_
      rintro e W0 ⟨rfl, hb0⟩
      have hb := hb0
      clear hb0
      obtain ⟨hc, hf⟩ := bcell hb
      have hz := hb.size
      simp at hz
      have hz1 : w.heap.size + 1 < W0.heap.size := by omega
      go_wp2_with fail
      refine (V2.out _).mono ?_
      rintro e W1 ⟨rfl, hb1⟩
      replace hb := hb.trans (hb1.mono hb.size)
      clear hc hf hz hz1 hb1
      obtain ⟨hc, hf⟩ := bcell hb
      have hz := hb.size
      simp at hz
      have hz1 : w.heap.size + 1 < W1.heap.size := by omega
      go_wp2
      have hB := (two_ _ _ ).trans (hb.mono (two_ (w := w) _ _ ).size)
      go_ret
      exact ⟨ret_bool (by simp), hB⟩

set_option maxHeartbeats 1600000 in
theorem within_any (a b n : Int) (w : World) : Calls Try.prog 19 #[.agg #[.int .i64 a, .int .i64 b], .int .i64 n] w fun e w' => e = .returned (.bool (withinF a b n)) ∧ Below w.heap.size w w' := by
  have V1 := Lib.hid (fun W => valid_any a b W)
  unfold withinF
  generalize vld a b = p at *
  cases p
  · go_enter Try.func19, Try.ntmps19
    go_wp2_with fail
    refine (V1.out _).mono ?_
    rintro e W0 ⟨rfl, hb0⟩
    have hb := hb0
    clear hb0
    obtain ⟨hc, hf⟩ := bcell hb
    have hz := hb.size
    simp at hz
    have hz1 : w.heap.size < W0.heap.size := by omega
    go_wp2
    have hB := (one_ _ ).trans (hb.mono (one_ (w := w) _ ).size)
    go_ret
    exact ⟨ret_bool (by simp), hB⟩
  · by_cases h : a ≤ n
    · go_enter Try.func19, Try.ntmps19
      go_wp2_with fail
      refine (V1.out _).mono ?_
      rintro e W0 ⟨rfl, hb0⟩
      have hb := hb0
      clear hb0
      obtain ⟨hc, hf⟩ := bcell hb
      have hz := hb.size
      simp at hz
      have hz1 : w.heap.size < W0.heap.size := by omega
      go_wp2
      have hB := (one_ _ ).trans (hb.mono (one_ (w := w) _ ).size)
      go_ret
      exact ⟨ret_bool (by simp [h]), hB⟩
    · go_enter Try.func19, Try.ntmps19
      go_wp2_with fail
      refine (V1.out _).mono ?_
      rintro e W0 ⟨rfl, hb0⟩
      have hb := hb0
      clear hb0
      obtain ⟨hc, hf⟩ := bcell hb
      have hz := hb.size
      simp at hz
      have hz1 : w.heap.size < W0.heap.size := by omega
      go_wp2
      have hB := (one_ _ ).trans (hb.mono (one_ (w := w) _ ).size)
      go_ret
      exact ⟨ret_bool (by simp; omega), hB⟩

set_option maxHeartbeats 1600000 in
theorem rwithin_any (a b n : Int) (w : World) : Calls Try.prog 20 #[.agg #[.int .i64 a, .int .i64 b], .int .i64 n] w fun e w' => e = .returned (.bool (withinF a b n)) ∧ Below w.heap.size w w' := by
  have V1 := Lib.hid (fun W => rvalid_any a b W)
  unfold withinF
  generalize vld a b = p at *
  cases p
  · go_enter Try.func20, Try.ntmps20
    go_wp2_with fail
    refine (V1.out _).mono ?_
    rintro e W0 ⟨rfl, hb0⟩
    have hb := hb0
    clear hb0
    obtain ⟨hc, hf⟩ := bcell hb
    have hz := hb.size
    simp at hz
    have hz1 : w.heap.size < W0.heap.size := by omega
    go_wp2
    have hB := (one_ _ ).trans (hb.mono (one_ (w := w) _ ).size)
    go_ret
    exact ⟨ret_bool (by simp), hB⟩
  · by_cases h : a ≤ n
    · go_enter Try.func20, Try.ntmps20
      go_wp2_with fail
      refine (V1.out _).mono ?_
      rintro e W0 ⟨rfl, hb0⟩
      have hb := hb0
      clear hb0
      obtain ⟨hc, hf⟩ := bcell hb
      have hz := hb.size
      simp at hz
      have hz1 : w.heap.size < W0.heap.size := by omega
      go_wp2
      have hB := (one_ _ ).trans (hb.mono (one_ (w := w) _ ).size)
      go_ret
      exact ⟨ret_bool (by simp [h]), hB⟩
    · go_enter Try.func20, Try.ntmps20
      go_wp2_with fail
      refine (V1.out _).mono ?_
      rintro e W0 ⟨rfl, hb0⟩
      have hb := hb0
      clear hb0
      obtain ⟨hc, hf⟩ := bcell hb
      have hz := hb.size
      simp at hz
      have hz1 : w.heap.size < W0.heap.size := by omega
      go_wp2
      have hB := (one_ _ ).trans (hb.mono (one_ (w := w) _ ).size)
      go_ret
      exact ⟨ret_bool (by simp; omega), hB⟩

end Go.Proofs.Ytkbmaedofhiegaa
