/- Plain mathematics: what was synchronized survives every operation but Truncate, and a crash. -/
import Derived.Test.YtdchodjfgeglgaaMath
namespace Go.Proofs.Ytdchodjfgeglgaa
open Go

/-- the disk is valid and its durable part begins with zs -/
def Holds (zs : List Int) (d : Dk) : Prop := okD d = true ∧ (zs.length : Int) ≤ d.dur ∧ d.data.take zs.length = zs
theorem take_app {zs xs ys : List Int} (h : xs.take zs.length = zs) : (xs ++ ys).take zs.length = zs := by
  have hl : zs.length ≤ xs.length := by
    have := congrArg List.length h
    rw [List.length_take] at this; omega
  rw [List.take_append_of_le_length hl]; exact h
theorem take_take' {zs xs : List Int} (h : xs.take zs.length = zs) {n : Nat} (hn : zs.length ≤ n) : (xs.take n).take zs.length = zs := by
  rw [List.take_take, Nat.min_eq_left hn]; exact h
theorem Holds.sync {zs : List Int} {d : Dk} (h : Holds zs d) (he : (syncF d).2 = 0 ∨ (syncF d).2 = 19) : Holds zs (syncF d).1 := by
  have hf := syncF_fine h.1
  obtain ⟨h1, h2, h3, h4, h5, h6, h7⟩ := (okD_iff d).1 h.1
  have hk : okD (syncF d).1 = true := by
    rcases hf with ⟨_, k, _⟩ | ⟨_, k, _⟩ | k | k
    · exact k
    · exact k
    · rcases he with e | e <;> omega
    · rcases he with e | e <;> omega
  refine ⟨hk, ?_, ?_⟩ <;> unfold syncF <;> rw [if_pos h.1] <;> (repeat' split)
  · exact h.2.1
  · exact h.2.1
  · have := h.2.1; simp only; omega
  · exact h.2.2
  · exact h.2.2
  · exact h.2.2
theorem Holds.arm {zs : List Int} {d : Dk} (h : Holds zs d) (n : Int) (he : (armF d n).2 = 0 ∨ (armF d n).2 = 19) : Holds zs (armF d n).1 := by
  have hf := armF_fine h.1 n
  have hk : okD (armF d n).1 = true := by
    rcases hf with ⟨_, k, _⟩ | ⟨_, k, _⟩ | k | k
    · exact k
    · exact k
    · rcases he with e | e <;> omega
    · rcases he with e | e <;> omega
  unfold armF at hk he ⊢
  rw [if_pos h.1] at hk he ⊢
  split at hk
  · rename_i hd; rw [if_pos hd]; exact h
  · rename_i hd
    rw [if_neg hd] at he ⊢
    split at he
    · simp at he
    · rename_i hn; rw [if_neg hn] at hk ⊢; exact ⟨hk, h.2.1, h.2.2⟩
theorem Holds.app {zs : List Int} {d : Dk} (h : Holds zs d) (ys : List Int) (he : (appF d ys).2 = 0 ∨ (appF d ys).2 = 19) : Holds zs (appF d ys).1 := by
  have hf := appF_fine h.1 ys
  have hk : okD (appF d ys).1 = true := by
    rcases hf with ⟨_, k, _⟩ | ⟨_, k, _⟩ | k | k
    · exact k
    · exact k
    · rcases he with e | e <;> omega
    · rcases he with e | e <;> omega
  unfold appF at hk he ⊢
  rw [if_pos h.1] at hk he ⊢
  by_cases hd : d.down = true
  · rw [if_pos hd]; exact h
  · rw [if_neg hd] at hk he ⊢
    by_cases hn : d.size < d.data.length + ys.length
    · rw [if_pos hn] at he; simp at he
    · rw [if_neg hn] at hk ⊢
      by_cases hc : 0 ≤ d.left ∧ d.left < ys.length
      · rw [if_pos hc] at hk ⊢; exact ⟨hk, h.2.1, take_app h.2.2⟩
      · rw [if_neg hc] at hk ⊢; exact ⟨hk, h.2.1, take_app h.2.2⟩
theorem Holds.crash {zs : List Int} {d : Dk} (h : Holds zs d) (n : Int) : Holds zs (crashF d n) := by
  have hk := (crashF_fine h.1 n).1
  obtain ⟨h1, h2, h3, h4, h5, h6, h7⟩ := (okD_iff d).1 h.1
  have hd := h.2.1
  have hN : d.dur ≤ crashN d n := by unfold crashN; omega
  unfold crashF at hk ⊢
  rw [if_pos h.1] at hk ⊢
  exact ⟨hk, by simp only; omega, take_take' h.2.2 (by omega)⟩
theorem Holds.act {zs : List Int} {d : Dk} (h : Holds zs d) {kd : Int} (hkd : kd ≠ 5) (m : Int) (ys : List Int) (he : (actF d kd m ys).2 = 0 ∨ (actF d kd m ys).2 = 19) : Holds zs (actF d kd m ys).1 := by
  unfold actF at he ⊢
  split at he
  · rename_i h1; rw [if_pos h1]; exact h.sync he
  · rename_i h1
    rw [if_neg h1, if_neg hkd]
    split at he
    · rename_i h2; rw [if_pos h2]; exact h.arm m he
    · rename_i h2
      rw [if_neg h2]
      split at he
      · rename_i h3; rw [if_pos h3]; exact h.crash m
      · rename_i h3; rw [if_neg h3]; exact h.app ys he
theorem Holds.len {zs : List Int} {d : Dk} (h : Holds zs d) : zs.length ≤ d.data.length := by
  obtain ⟨h1, h2, h3, h4, h5, h6, h7⟩ := (okD_iff d).1 h.1
  have := h.2.1
  omega
theorem Holds.start (zs : List Int) (h : zs.length ≤ 100) : Holds zs ⟨1000, zs, zs.length, -1, false⟩ :=
  ⟨(okD_iff _).2 (by simp only; omega), by simp, List.take_length⟩
theorem new1000 : newF 1000 = (⟨1000, [], 0, -1, false⟩, 0) := by unfold newF; rw [if_pos (by omega)]
theorem app1000 (zs : List Int) (h : zs.length ≤ 100) : appF ⟨1000, [], 0, -1, false⟩ zs = (⟨1000, zs, 0, -1, false⟩, 0) := by
  have ho : okD ⟨1000, [], 0, -1, false⟩ = true := (okD_iff _).2 (by simp)
  unfold appF
  rw [if_pos ho, if_neg (by simp), if_neg (by simp only [List.length_nil]; omega), if_neg (by simp only; omega), if_neg (by simp only; omega)]
  rfl
theorem sync1000 (zs : List Int) (h : zs.length ≤ 100) : syncF ⟨1000, zs, 0, -1, false⟩ = (⟨1000, zs, zs.length, -1, false⟩, 0) := by
  have ho : okD ⟨1000, zs, 0, -1, false⟩ = true := (okD_iff _).2 (by simp only; omega)
  unfold syncF
  rw [if_pos ho, if_neg (by simp), if_neg (by simp only; omega)]
end Go.Proofs.Ytdchodjfgeglgaa
