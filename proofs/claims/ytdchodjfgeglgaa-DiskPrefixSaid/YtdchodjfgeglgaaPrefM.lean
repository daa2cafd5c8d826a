/- Plain mathematics: what each operation gives on a valid disk, case by case; strings of bytes. -/
import Derived.Test.YtdchodjfgeglgaaKeepM
import Derived.Laws.BytesArg
namespace Go.Proofs.Ytdchodjfgeglgaa
open Go

theorem take_len_take (ys : List Int) (kk : Nat) : ys.take (ys.take kk).length = ys.take kk := by
  rw [List.length_take]
  rcases Nat.le_total kk ys.length with h | h
  · rw [Nat.min_eq_left h]
  · rw [Nat.min_eq_right h, List.take_of_length_le (Nat.le_refl _), List.take_of_length_le h]
theorem str_size (l : List Int) : (strOfNums l).size = l.length := by
  unfold strOfNums; simp [ByteArray.size]
theorem str_append (a b : List Int) : strOfNums a ++ strOfNums b = strOfNums (a ++ b) := by
  unfold strOfNums
  apply ByteArray.ext
  simp [ByteArray.data_append]
theorem str_take (l : List Int) (n : Nat) : (strOfNums l).extract 0 n = strOfNums (l.take n) := by
  unfold strOfNums
  apply ByteArray.ext
  simp [ByteArray.data_extract, List.map_take]
section
variable {s : Int} {xs : List Int} {du le : Int} {dn : Bool} (h : okD ⟨s, xs, du, le, dn⟩ = true)
include h
theorem cls_err (hd : dn = true) {kd : Int} (hk : kd ≠ 7) (m : Int) (ys : List Int) : actF ⟨s, xs, du, le, dn⟩ kd m ys = (⟨s, xs, du, le, true⟩, 19) := by
  subst hd
  unfold actF syncF truncF armF appF
  rw [if_pos h, if_pos h, if_pos h, if_pos h, if_pos rfl, if_pos rfl, if_pos rfl, if_pos rfl, if_neg hk]
  repeat' split
  all_goals rfl
theorem cls_app (hd : dn = false) {kd : Int} (hk : kd < 3 ∨ 7 < kd) (m : Int) (ys : List Int) :
    (∃ le2, actF ⟨s, xs, du, le, dn⟩ kd m ys = (⟨s, xs ++ ys, du, le2, false⟩, 0)) ∨ (∃ k, actF ⟨s, xs, du, le, dn⟩ kd m ys = (⟨s, xs ++ ys.take k, du, 0, true⟩, 19)) ∨ actF ⟨s, xs, du, le, dn⟩ kd m ys = (dz, 6) := by
  subst hd
  have e : actF ⟨s, xs, du, le, false⟩ kd m ys = appF ⟨s, xs, du, le, false⟩ ys := by
    unfold actF
    rw [if_neg (by omega), if_neg (by omega), if_neg (by omega), if_neg (by omega)]
  rw [e]
  unfold appF
  rw [if_pos h, if_neg (by simp)]
  split
  · exact .inr (.inr rfl)
  · split
    · exact .inr (.inl ⟨_, rfl⟩)
    · exact .inl ⟨_, rfl⟩
theorem cls_sync (hd : dn = false) {kd : Int} (hk : kd = 3 ∨ kd = 4) (m : Int) (ys : List Int) :
    actF ⟨s, xs, du, le, dn⟩ kd m ys = (⟨s, xs, xs.length, le, false⟩, 0) ∨ actF ⟨s, xs, du, le, dn⟩ kd m ys = (⟨s, xs, du, 0, true⟩, 19) := by
  subst hd
  unfold actF
  rw [if_pos hk]
  unfold syncF
  rw [if_pos h, if_neg (by simp)]
  split
  · exact .inr rfl
  · exact .inl rfl
theorem cls_trunc (hd : dn = false) (m : Int) (ys : List Int) :
    actF ⟨s, xs, du, le, dn⟩ 5 m ys = (dz, 2) ∨ ∃ n : Nat, m = n ∧ n ≤ xs.length ∧ actF ⟨s, xs, du, le, dn⟩ 5 m ys = (⟨s, xs.take n, min du n, le, false⟩, 0) := by
  subst hd
  have e : actF ⟨s, xs, du, le, false⟩ 5 m ys = truncF ⟨s, xs, du, le, false⟩ m := by
    unfold actF
    rw [if_neg (by omega), if_pos rfl]
  rw [e]
  unfold truncF
  rw [if_pos h, if_neg (by simp)]
  split
  · exact .inl rfl
  · rename_i hn
    simp only at hn
    obtain ⟨n, rfl⟩ := Int.eq_ofNat_of_zero_le (show 0 ≤ m by omega)
    exact .inr ⟨n, rfl, by omega, by rw [Int.toNat_natCast]⟩
theorem cls_arm (hd : dn = false) (m : Int) (ys : List Int) :
    actF ⟨s, xs, du, le, dn⟩ 6 m ys = (dz, 2) ∨ actF ⟨s, xs, du, le, dn⟩ 6 m ys = (⟨s, xs, du, m, false⟩, 0) := by
  subst hd
  have e : actF ⟨s, xs, du, le, false⟩ 6 m ys = armF ⟨s, xs, du, le, false⟩ m := by
    unfold actF
    rw [if_neg (by omega), if_neg (by omega), if_pos rfl]
  rw [e]
  unfold armF
  rw [if_pos h, if_neg (by simp)]
  split
  · exact .inl rfl
  · exact .inr rfl
theorem crash_is (keep : Int) : ∃ n : Nat, n ≤ xs.length ∧ du ≤ n ∧ crashF ⟨s, xs, du, le, dn⟩ keep = ⟨s, xs.take n, n, -1, false⟩ := by
  obtain ⟨h1, h2, h3, h4, h5, h6, h7⟩ := (okD_iff _).1 h
  simp only at h1 h2 h3 h4 h5 h6 h7
  have h0 : 0 ≤ crashN ⟨s, xs, du, le, dn⟩ keep ∧ du ≤ crashN ⟨s, xs, du, le, dn⟩ keep ∧ crashN ⟨s, xs, du, le, dn⟩ keep ≤ xs.length := by unfold crashN; simp only; omega
  refine ⟨(crashN ⟨s, xs, du, le, dn⟩ keep).toNat, by omega, by omega, ?_⟩
  unfold crashF
  rw [if_pos h]
  congr 1
  omega
theorem cls_crash (m : Int) (ys : List Int) : ∃ n : Nat, n ≤ xs.length ∧ du ≤ n ∧ actF ⟨s, xs, du, le, dn⟩ 7 m ys = (⟨s, xs.take n, n, -1, false⟩, 0) := by
  obtain ⟨n, h1, h2, h3⟩ := crash_is h m
  refine ⟨n, h1, h2, ?_⟩
  unfold actF
  rw [if_neg (by omega), if_neg (by omega), if_neg (by omega), if_pos rfl, h3]
end
theorem new500 : newF 500 = (⟨500, [], 0, -1, false⟩, 0) ∧ okD ⟨500, [], 0, -1, false⟩ = true := ⟨by unfold newF; rw [if_pos (by omega)], (okD_iff _).2 (by simp)⟩
end Go.Proofs.Ytdchodjfgeglgaa
