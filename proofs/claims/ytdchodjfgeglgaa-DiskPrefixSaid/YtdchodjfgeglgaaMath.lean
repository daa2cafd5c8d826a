/- Plain mathematics of sequences of operations: what is valid stays valid. -/
import Derived.Test.YtdchodjfgeglgaaPlain
namespace Go.Proofs.Ytdchodjfgeglgaa
open Go

/-- a result is: no error and a valid disk, or the disk is down, or one of two errors -/
def Fine (r : Dk × Int) : Prop := (r.2 = 0 ∧ okD r.1 = true ∧ r.1.down = false) ∨ (r.2 = 19 ∧ okD r.1 = true ∧ r.1.down = true) ∨ r.2 = 2 ∨ r.2 = 6
theorem syncF_fine {d : Dk} (h : okD d = true) : Fine (syncF d) := by
  obtain ⟨h1, h2, h3, h4, h5, h6, h7⟩ := (okD_iff d).1 h
  unfold syncF
  rw [if_pos h]
  split
  · exact .inr (.inl ⟨rfl, h, by assumption⟩)
  · split
    · exact .inr (.inl ⟨rfl, (okD_iff _).2 (by simp only; omega), rfl⟩)
    · exact .inl ⟨rfl, (okD_iff _).2 (by simp only; omega), rfl⟩
theorem armF_fine {d : Dk} (h : okD d = true) (n : Int) : Fine (armF d n) := by
  obtain ⟨h1, h2, h3, h4, h5, h6, h7⟩ := (okD_iff d).1 h
  unfold armF
  rw [if_pos h]
  split
  · exact .inr (.inl ⟨rfl, h, by assumption⟩)
  · split
    · exact .inr (.inr (.inl rfl))
    · exact .inl ⟨rfl, (okD_iff _).2 (by simp only; omega), rfl⟩
theorem truncF_fine {d : Dk} (h : okD d = true) (n : Int) : Fine (truncF d n) := by
  obtain ⟨h1, h2, h3, h4, h5, h6, h7⟩ := (okD_iff d).1 h
  unfold truncF
  rw [if_pos h]
  split
  · exact .inr (.inl ⟨rfl, h, by assumption⟩)
  · split
    · exact .inr (.inr (.inl rfl))
    · exact .inl ⟨rfl, (okD_iff _).2 (by simp only [List.length_take]; omega), rfl⟩
theorem appF_fine {d : Dk} (h : okD d = true) (ys : List Int) : Fine (appF d ys) := by
  obtain ⟨h1, h2, h3, h4, h5, h6, h7⟩ := (okD_iff d).1 h
  unfold appF
  rw [if_pos h]
  split
  · exact .inr (.inl ⟨rfl, h, by assumption⟩)
  · split
    · exact .inr (.inr (.inr rfl))
    · split
      · exact .inr (.inl ⟨rfl, (okD_iff _).2 (by simp only [List.length_append, List.length_take]; omega), rfl⟩)
      · refine .inl ⟨rfl, (okD_iff _).2 ?_, rfl⟩
        simp only [List.length_append]
        split <;> omega
theorem crashF_fine {d : Dk} (h : okD d = true) (n : Int) : okD (crashF d n) = true ∧ (crashF d n).down = false := by
  obtain ⟨h1, h2, h3, h4, h5, h6, h7⟩ := (okD_iff d).1 h
  unfold crashF
  rw [if_pos h]
  exact ⟨(okD_iff _).2 (by unfold crashN; simp only [List.length_take]; omega), rfl⟩
theorem actF_fine {d : Dk} (h : okD d = true) (kd m : Int) (ys : List Int) : Fine (actF d kd m ys) := by
  unfold actF
  split
  · exact syncF_fine h
  · split
    · exact truncF_fine h m
    · split
      · exact armF_fine h m
      · split
        · exact .inl ⟨rfl, (crashF_fine h m).1, (crashF_fine h m).2⟩
        · exact appF_fine h ys
theorem newF_fine (s : Int) : newF s = (dz, 2) ∨ (newF s = (⟨s, [], 0, -1, false⟩, 0) ∧ okD ⟨s, [], 0, -1, false⟩ = true) := by
  unfold newF
  split
  · exact .inr ⟨rfl, (okD_iff _).2 (by simp; omega)⟩
  · exact .inl rfl
end Go.Proofs.Ytdchodjfgeglgaa
