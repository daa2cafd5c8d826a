/- FracField. -/
-- BIG
import Derived.Test.YtddglikicokpeaaDoorFrV6a
import Derived.Test.YtddglikicokpeaaDoorFrV6b
import Derived.Test.YtddglikicokpeaaDoorFrV6c
import Derived.Test.YtddglikicokpeaaDoorFrV6d
namespace Go.Proofs.YtddglikicokpeaaDoor
open Go Go.RowKit
set_option linter.unusedVariables false
set_option linter.unusedSimpArgs false
set_option maxHeartbeats 40000000

set_option maxRecDepth 100000 in
theorem f6 (a b c : Fr) (ha : i64F a) (hb : i64F b) (hc : i64F c) : evE Dg 6 [eF a, eF b, eF c] = some (.bool true) := by
  have h14 := f14
  have qAB := f18 a b ha hb
  have qBA := f18 b a hb ha
  rw [addS_comm b a] at qBA
  have qM := f22 a b ha hb
  have qM' := f22 b a hb ha
  rw [mulS_comm b a] at qM'
  have qSB := f20 (addS a b).1 b (add64 a b) hb
  have qBC := f18 b c hb hc
  have qL := f18 (addS a b).1 c (add64 a b) hc
  have qR := f18 a (addS b c).1 ha (add64 b c)
  have qZ := f22 a c ha hc
  have qO := f22 a (addS b c).1 ha (add64 b c)
  have qT := f18 (mulS a b).1 (mulS a c).1 (mul64 a b) (mul64 a c)
  have h1 := @sub_add a b
  have h2 := @add_assocS a b c
  have h3 := @mul_addS a b c
  generalize addS (addS a b).1 c = L at *
  generalize addS a (addS b c).1 = RR at *
  generalize subS (addS a b).1 b = SB at *
  generalize mulS a (addS b c).1 = O at *
  generalize addS (mulS a b).1 (mulS a c).1 = T at *
  generalize addS a b = AB at *
  generalize addS b c = BC at *
  generalize mulS a b = M at *
  generalize mulS a c = Z at *
  obtain ⟨⟨x1, x2⟩, p⟩ := AB
  obtain ⟨⟨y1, y2⟩, i⟩ := BC
  obtain ⟨⟨m1, m2⟩, s⟩ := M
  obtain ⟨⟨z1, z2⟩, u⟩ := Z
  simp only at h1 h2 h3
  obtain ⟨a1, a2⟩ := a
  obtain ⟨b1, b2⟩ := b
  obtain ⟨c1, c2⟩ := c
  clear ha hb hc
  simp only [eF, eR] at *
  cases p with
  | false =>
    obtain ⟨⟨l1, l2⟩, j⟩ := L
    obtain ⟨⟨r1, r2⟩, k⟩ := RR
    cases i with
    | false =>
      obtain ⟨⟨o1, o2⟩, v⟩ := O
      obtain ⟨⟨t1, t2⟩, w⟩ := T
      exact f6_0 _ _ _ _ _ _ _ _ _ _ _ _ _ _ _ _ _ _ _ _ _ _ _ _ _ _ _ _ h14 qAB qBA qM qM' qBC qL qR qZ qO qT
    | true =>
      cases s with
      | false =>
        obtain ⟨⟨o1, o2⟩, v⟩ := O
        obtain ⟨⟨t1, t2⟩, w⟩ := T
        exact f6_1 _ _ _ _ _ _ _ _ _ _ _ _ _ _ _ _ _ _ _ _ _ _ _ _ _ _ _ h14 qAB qBA qM qM' qBC qL qR qZ qO qT
      | true =>
        cases u with
        | false =>
          obtain ⟨⟨o1, o2⟩, v⟩ := O
          obtain ⟨⟨t1, t2⟩, w⟩ := T
          exact f6_2 _ _ _ _ _ _ _ _ _ _ _ _ _ _ _ _ _ _ _ _ _ _ _ _ _ _ h14 qAB qBA qM qM' qBC qL qR qZ qO qT
        | true =>
          obtain rfl := h3 rfl rfl rfl
          obtain ⟨⟨o1, o2⟩, v⟩ := O
          cases v with
          | false => exact f6_3 _ _ _ _ _ _ _ _ _ _ _ _ _ _ _ _ _ _ _ _ _ _ h14 qAB qBA qM qM' qBC qL qR qZ qO qT
          | true => exact f6_4 _ _ _ _ _ _ _ _ _ _ _ _ _ _ _ _ _ _ _ _ _ _ h14 qAB qBA qM qM' qBC qL qR qZ qO qT
  | true =>
    obtain rfl := h1 rfl
    cases i with
    | false =>
      obtain ⟨⟨l1, l2⟩, j⟩ := L
      obtain ⟨⟨r1, r2⟩, k⟩ := RR
      obtain ⟨⟨o1, o2⟩, v⟩ := O
      obtain ⟨⟨t1, t2⟩, w⟩ := T
      exact f6_5 _ _ _ _ _ _ _ _ _ _ _ _ _ _ _ _ _ _ _ _ _ _ _ _ _ _ _ _ h14 qAB qBA qM qM' qSB qBC qL qR qZ qO qT
    | true =>
      obtain rfl := h2 rfl rfl
      obtain ⟨⟨l1, l2⟩, j⟩ := L
      cases s with
      | false =>
        obtain ⟨⟨o1, o2⟩, v⟩ := O
        obtain ⟨⟨t1, t2⟩, w⟩ := T
        cases j with
        | false => exact f6_6 _ _ _ _ _ _ _ _ _ _ _ _ _ _ _ _ _ _ _ _ _ _ _ h14 qAB qBA qM qM' qSB qBC qL qR qZ qO qT
        | true => exact f6_7 _ _ _ _ _ _ _ _ _ _ _ _ _ _ _ _ _ _ _ _ _ _ _ h14 qAB qBA qM qM' qSB qBC qL qR qZ qO qT
      | true =>
        cases u with
        | false =>
          obtain ⟨⟨o1, o2⟩, v⟩ := O
          obtain ⟨⟨t1, t2⟩, w⟩ := T
          cases j with
          | false => exact f6_8 _ _ _ _ _ _ _ _ _ _ _ _ _ _ _ _ _ _ _ _ _ _ h14 qAB qBA qM qM' qSB qBC qL qR qZ qO qT
          | true => exact f6_9 _ _ _ _ _ _ _ _ _ _ _ _ _ _ _ _ _ _ _ _ _ _ h14 qAB qBA qM qM' qSB qBC qL qR qZ qO qT
        | true =>
          obtain rfl := h3 rfl rfl rfl
          obtain ⟨⟨o1, o2⟩, v⟩ := O
          cases j with
          | false =>
            cases v with
            | false => exact f6_10 _ _ _ _ _ _ _ _ _ _ _ _ _ _ _ _ _ _ h14 qAB qBA qM qM' qSB qBC qL qR qZ qO qT
            | true => exact f6_11 _ _ _ _ _ _ _ _ _ _ _ _ _ _ _ _ _ _ h14 qAB qBA qM qM' qSB qBC qL qR qZ qO qT
          | true =>
            cases v with
            | false => exact f6_12 _ _ _ _ _ _ _ _ _ _ _ _ _ _ _ _ _ _ h14 qAB qBA qM qM' qSB qBC qL qR qZ qO qT
            | true => exact f6_13 _ _ _ _ _ _ _ _ _ _ _ _ _ _ _ _ _ _ h14 qAB qBA qM qM' qSB qBC qL qR qZ qO qT
theorem law6 (ps : List PV) (h : ArgL Tryd.prog 12 [23, 23, 23] ps) : evE Dg 6 ps = some (.bool true) := by
  obtain ⟨p, q, r, rfl, h1, h2, h3⟩ := argL3 h
  obtain ⟨a, rfl, ha⟩ := in23 h1
  obtain ⟨b, rfl, hb⟩ := in23 h2
  obtain ⟨c, rfl, hc⟩ := in23 h3
  exact f6 a b c ha hb hc
end Go.Proofs.YtddglikicokpeaaDoor
