/- What comes in, opened type by type. -/
import Derived.Test.YtkdalahepedghaaEvLp
namespace Go.Proofs.Ytkdalahepedghaa
open Go Go.RowKit
set_option linter.unusedVariables false

section
variable {P : Program} {d : Nat} {t : TypeId} {ps : List PV} {p : PV}
theorem ht_bool (hu : P.underlying t = some .bool) (h : HT P (d + 1) t ps) : ∃ b, ps = [.bool b] := by simp only [HT, hu] at h; exact h
theorem ht_int {k : IntKind} (hu : P.underlying t = some (.int k)) (h : HT P (d + 1) t ps) : ∃ i, ps = [.int k i] ∧ (Lit.int k i).wf = true := by simp only [HT, hu] at h; exact h
theorem ht_string (hu : P.underlying t = some .string) (h : HT P (d + 1) t ps) : ∃ s, ps = [.str s] ∧ s.length ≤ maxLen := by simp only [HT, hu] at h; exact h
theorem ht_slice {e : TypeId} (hu : P.underlying t = some (.slice e)) (h : HT P (d + 1) t ps) : ∃ rows, ps = [.sl false (P.cellsOf e) rows] ∧ rows.length ≤ maxLen ∧ ∀ r ∈ rows, HT P d e r := by simp only [HT, hu] at h; exact h
theorem ht_struct {fs : Array Field} (hu : P.underlying t = some (.struct fs)) (h : HT P (d + 1) t ps) : HTF (HT P d) fs.toList ps := by simp only [HT, hu] at h; exact h
theorem ht_array {k : Nat} {e : TypeId} (hu : P.underlying t = some (.array k e)) (h : HT P (d + 1) t ps) : HTA (HT P d e) k ps := by simp only [HT, hu] at h; exact h
theorem argT_struct {fs : Array Field} (hu : P.underlying t = some (.struct fs)) (h : ArgT P d t p) : ∃ ps, p = .agg ps ∧ HT P d t ps := by simp only [ArgT, hu] at h; exact h
theorem argT_array {k : Nat} {e : TypeId} (hu : P.underlying t = some (.array k e)) (h : ArgT P d t p) : ∃ ps, p = .agg ps ∧ HT P d t ps := by simp only [ArgT, hu] at h; exact h
theorem argT_slice {e : TypeId} (hu : P.underlying t = some (.slice e)) (h : ArgT P d t p) : HT P d t [p] := by simp only [ArgT, hu] at h; exact h
theorem argT_int {k : IntKind} (hu : P.underlying t = some (.int k)) (h : ArgT P (d + 1) t p) : ∃ i, p = .int k i ∧ (Lit.int k i).wf = true := by
  simp only [ArgT, hu] at h
  obtain ⟨i, h1, h2⟩ := ht_int hu h
  exact ⟨i, by simpa using h1, h2⟩
theorem argT_bool (hu : P.underlying t = some .bool) (h : ArgT P (d + 1) t p) : ∃ b, p = .bool b := by
  simp only [ArgT, hu] at h
  obtain ⟨i, h1⟩ := ht_bool hu h
  exact ⟨i, by simpa using h1⟩
theorem argT_string (hu : P.underlying t = some .string) (h : ArgT P (d + 1) t p) : ∃ s, p = .str s ∧ s.length ≤ maxLen := by
  simp only [ArgT, hu] at h
  obtain ⟨i, h1, h2⟩ := ht_string hu h
  exact ⟨i, by simpa using h1, h2⟩

/-- a slice of rows of one shape -/
theorem argT_rows {α : Type} {f : α → List PV} {e : TypeId} {c : Nat} {Q : α → Prop} (hu : P.underlying t = some (.slice e)) (hc : P.cellsOf e = c) (hf : ∀ r, HT P d e r → ∃ a, r = f a ∧ Q a) (h : HT P (d + 1) t ps) : ∃ l : List α, ps = [.sl false c (l.map f)] ∧ l.length ≤ maxLen ∧ ∀ a ∈ l, Q a := by
  obtain ⟨rows, rfl, hl, hr⟩ := ht_slice hu h
  rw [hc]
  clear h
  have : ∃ l : List α, rows = l.map f ∧ ∀ a ∈ l, Q a := by
    clear hl
    induction rows with
    | nil => exact ⟨[], rfl, by simp⟩
    | cons r rows ih =>
      obtain ⟨a, ha, hq⟩ := hf r (hr r (by simp))
      obtain ⟨l, hl, hql⟩ := ih fun r' hr' => hr r' (by simp [hr'])
      refine ⟨a :: l, by simp [ha, hl], ?_⟩
      intro b hb
      rcases List.mem_cons.1 hb with rfl | hb
      · exact hq
      · exact hql b hb
  obtain ⟨l, rfl, hq⟩ := this
  exact ⟨l, rfl, by simpa using hl, hq⟩

theorem htf_nil {h : TypeId → List PV → Prop} {ps : List PV} (x : HTF h [] ps) : ps = [] := x
theorem htf_cons {h : TypeId → List PV → Prop} {f : Field} {r : List Field} {ps : List PV} (x : HTF h (f :: r) ps) : ∃ p q, ps = p ++ q ∧ h f.type p ∧ HTF h r q := x
theorem hta_nil {h : List PV → Prop} {ps : List PV} (x : HTA h 0 ps) : ps = [] := x
theorem hta_cons {h : List PV → Prop} {k : Nat} {ps : List PV} (x : HTA h (k + 1) ps) : ∃ p q, ps = p ++ q ∧ h p ∧ HTA h k q := x

theorem argL1 {t1 : TypeId} (h : ArgL P d [t1] ps) : ∃ a, ps = [a] ∧ ArgT P d t1 a := by
  cases ps with
  | nil => exact h.elim
  | cons a r => cases r with
    | nil => exact ⟨a, rfl, h.1⟩
    | cons b r => exact h.2.elim
theorem argL_cons {t1 : TypeId} {ts : List TypeId} (h : ArgL P d (t1 :: ts) ps) : ∃ a qs, ps = a :: qs ∧ ArgT P d t1 a ∧ ArgL P d ts qs := by
  cases ps with
  | nil => exact h.elim
  | cons a r => exact ⟨a, r, rfl, h.1, h.2⟩
theorem argL2 {t1 t2 : TypeId} (h : ArgL P d [t1, t2] ps) : ∃ a b, ps = [a, b] ∧ ArgT P d t1 a ∧ ArgT P d t2 b := by
  obtain ⟨a, q, rfl, h1, h2⟩ := argL_cons h
  obtain ⟨b, rfl, h3⟩ := argL1 h2
  exact ⟨a, b, rfl, h1, h3⟩
theorem argL3 {t1 t2 t3 : TypeId} (h : ArgL P d [t1, t2, t3] ps) : ∃ a b c, ps = [a, b, c] ∧ ArgT P d t1 a ∧ ArgT P d t2 b ∧ ArgT P d t3 c := by
  obtain ⟨a, q, rfl, h1, h2⟩ := argL_cons h
  obtain ⟨b, c, rfl, h3, h4⟩ := argL2 h2
  exact ⟨a, b, c, rfl, h1, h3, h4⟩
theorem argL4 {t1 t2 t3 t4 : TypeId} (h : ArgL P d [t1, t2, t3, t4] ps) : ∃ a b c e, ps = [a, b, c, e] ∧ ArgT P d t1 a ∧ ArgT P d t2 b ∧ ArgT P d t3 c ∧ ArgT P d t4 e := by
  obtain ⟨a, q, rfl, h1, h2⟩ := argL_cons h
  obtain ⟨b, c, e, rfl, h3, h4, h5⟩ := argL3 h2
  exact ⟨a, b, c, e, rfl, h1, h3, h4, h5⟩
theorem wf_i64 {i : Int} (h : (Lit.int .i64 i).wf = true) : -9223372036854775808 ≤ i ∧ i ≤ 9223372036854775807 := by
  simp [Lit.wf, IntKind.min, IntKind.max, IntKind.signed, IntKind.bits] at h
  omega
end
end Go.Proofs.Ytkdalahepedghaa
