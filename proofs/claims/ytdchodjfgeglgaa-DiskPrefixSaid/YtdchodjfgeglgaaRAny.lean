/- One contract for each operation of the reference's disk: it gives what the plain function gives. -/
import Derived.Test.YtdchodjfgeglgaaAny
import Derived.Test.YtdchodjfgeglgaaRef1
import Derived.Test.YtdchodjfgeglgaaRef2
import Derived.Test.YtdchodjfgeglgaaRef3
namespace Go.Proofs.Ytdchodjfgeglgaa
open Go.ChangeShapes Go.WideShapes Go.ChangeAt Go.RowKit

section
variable (d : Dk) (A : Option Addr) (cap : Nat) (w : World) (hx : Sl w A cap d.data)
include hx

theorem rappend_gives (B : Option Addr) (cb : Nat) (ys : List Int) (hy : Sl w B cb ys) (m : Nat) (hm : m = ys.length) (hmm : m ≤ 1000000) : Calls Try.prog 26 #[dval d A cap, .slice B m cb] w (GivesD w A d.data (appF d ys)) := by
  subst hm
  obtain ⟨s, xs, du, le, dn⟩ := d
  cases ho : okD ⟨s, xs, du, le, dn⟩
  · have e : appF ⟨s, xs, du, le, dn⟩ ys = (dz, 2) := by unfold appF; rw [ho]; rfl
    rw [e]
    exact (rappend_bad s A xs.length cap du le dn B ys.length cb w ho).mono fun _ _ h => gives_z h
  · obtain ⟨h1, h2, h3, h4, h5, h6, h7⟩ := (okD_iff _).1 ho
    simp only at h1 h2 h3 h4 h5 h6 h7
    cases dn
    · by_cases hf : s < xs.length + ys.length
      · have e : appF ⟨s, xs, du, le, false⟩ ys = (dz, 6) := by unfold appF; rw [if_pos ho, if_neg (by simp), if_pos hf]
        rw [e]
        exact (rappend_full s A xs.length cap du le B ys.length cb w ho hf (by omega)).mono fun _ _ h => gives_z h
      · by_cases hc : 0 ≤ le ∧ le < ys.length
        · have e : appF ⟨s, xs, du, le, false⟩ ys = (⟨s, xs ++ ys.take le.toNat, du, 0, true⟩, 19) := by unfold appF; rw [if_pos ho, if_neg (by simp), if_neg hf, if_pos hc]
          rw [e]
          obtain ⟨k, rfl⟩ := Int.eq_ofNat_of_zero_le hc.1
          refine (rappend_cut s A cap xs du k B cb ys w ho (by omega) (by omega) hx hy).mono ?_
          rintro e w' ⟨A2, c2, rfl, hs, hst, hb⟩
          refine ⟨A2, c2, ?_, by simpa using hs, by simpa using hst, hb⟩
          simp [dval]
          omega
        · by_cases h0 : le = -1
          · have e : appF ⟨s, xs, du, le, false⟩ ys = (⟨s, xs ++ ys, du, -1, false⟩, 0) := by unfold appF; rw [if_pos ho, if_neg (by simp), if_neg hf, if_neg hc, if_neg (by simp only; omega)]
            rw [e]
            subst h0
            refine (rappend_all s A cap xs du B cb ys w ho (by omega) hx hy).mono ?_
            rintro e w' ⟨A2, c2, rfl, hs, hst, hb⟩
            exact ⟨A2, c2, by simp [dval], hs, hst, hb⟩
          · have e : appF ⟨s, xs, du, le, false⟩ ys = (⟨s, xs ++ ys, du, le - ys.length, false⟩, 0) := by unfold appF; rw [if_pos ho, if_neg (by simp), if_neg hf, if_neg hc, if_pos (by simp only; omega)]
            rw [e]
            refine (rappend_le s A cap xs du le B cb ys w ho (by omega) (by omega) hx hy).mono ?_
            rintro e w' ⟨A2, c2, rfl, hs, hst, hb⟩
            exact ⟨A2, c2, by simp [dval], hs, hst, hb⟩
    · have e : appF ⟨s, xs, du, le, true⟩ ys = (⟨s, xs, du, le, true⟩, 19) := by unfold appF; rw [if_pos ho, if_pos rfl]
      rw [e]
      refine (rappend_down s A xs.length cap du le B ys.length cb w ho).mono ?_
      rintro e w' ⟨rfl, hb⟩
      exact ⟨A, cap, rfl, hx.keep hb, Stays.refl _ _ _, hb⟩

theorem rsync_gives : Calls Try.prog 22 #[dval d A cap] w (GivesD w A d.data (syncF d)) := by
  obtain ⟨s, xs, du, le, dn⟩ := d
  cases ho : okD ⟨s, xs, du, le, dn⟩
  · have e : syncF ⟨s, xs, du, le, dn⟩ = (dz, 2) := by unfold syncF; rw [ho]; rfl
    rw [e]
    exact (rsync_bad s A xs.length cap du le dn w ho).mono fun _ _ h => gives_z h
  · cases dn
    · by_cases h0 : le = 0
      · subst h0
        have e : syncF ⟨s, xs, du, 0, false⟩ = (⟨s, xs, du, 0, true⟩, 19) := by unfold syncF; rw [if_pos ho, if_neg (by simp), if_pos rfl]
        rw [e]
        refine (rsync_zero s A xs.length cap du w ho).mono ?_
        rintro e w' ⟨rfl, hb⟩
        exact ⟨A, cap, rfl, hx.keep hb, Stays.refl _ _ _, hb⟩
      · have e : syncF ⟨s, xs, du, le, false⟩ = (⟨s, xs, xs.length, le, false⟩, 0) := by unfold syncF; rw [if_pos ho, if_neg (by simp), if_neg h0]
        rw [e]
        refine (rsync_ok s A xs.length cap du le w ho (by simpa using h0)).mono ?_
        rintro e w' ⟨rfl, hb⟩
        exact ⟨A, cap, rfl, hx.keep hb, Stays.refl _ _ _, hb⟩
    · have e : syncF ⟨s, xs, du, le, true⟩ = (⟨s, xs, du, le, true⟩, 19) := by unfold syncF; rw [if_pos ho, if_pos rfl]
      rw [e]
      refine (rsync_down s A xs.length cap du le w ho).mono ?_
      rintro e w' ⟨rfl, hb⟩
      exact ⟨A, cap, rfl, hx.keep hb, Stays.refl _ _ _, hb⟩

theorem rarm_gives (k : Int) : Calls Try.prog 24 #[dval d A cap, .int .i64 k] w (GivesD w A d.data (armF d k)) := by
  obtain ⟨s, xs, du, le, dn⟩ := d
  cases ho : okD ⟨s, xs, du, le, dn⟩
  · have e : armF ⟨s, xs, du, le, dn⟩ k = (dz, 2) := by unfold armF; rw [ho]; rfl
    rw [e]
    exact (rarm_bad s A xs.length cap du le dn k w ho).mono fun _ _ h => gives_z h
  · cases dn
    · by_cases h0 : k < 0
      · have e : armF ⟨s, xs, du, le, false⟩ k = (dz, 2) := by unfold armF; rw [if_pos ho, if_neg (by simp), if_pos (.inl h0)]
        rw [e]
        exact (rarm_low s A xs.length cap du le k w ho h0).mono fun _ _ h => gives_z h
      · by_cases h1 : 1048576 < k
        · have e : armF ⟨s, xs, du, le, false⟩ k = (dz, 2) := by unfold armF; rw [if_pos ho, if_neg (by simp), if_pos (.inr h1)]
          rw [e]
          exact (rarm_high s A xs.length cap du le k w ho h1).mono fun _ _ h => gives_z h
        · have e : armF ⟨s, xs, du, le, false⟩ k = (⟨s, xs, du, k, false⟩, 0) := by unfold armF; rw [if_pos ho, if_neg (by simp), if_neg (by omega)]
          rw [e]
          refine (rarm_ok s A xs.length cap du le k w ho (by omega) (by omega)).mono ?_
          rintro e w' ⟨rfl, hb⟩
          exact ⟨A, cap, rfl, hx.keep hb, Stays.refl _ _ _, hb⟩
    · have e : armF ⟨s, xs, du, le, true⟩ k = (⟨s, xs, du, le, true⟩, 19) := by unfold armF; rw [if_pos ho, if_pos rfl]
      rw [e]
      refine (rarm_down s A xs.length cap du le k w ho).mono ?_
      rintro e w' ⟨rfl, hb⟩
      exact ⟨A, cap, rfl, hx.keep hb, Stays.refl _ _ _, hb⟩

theorem rtrunc_gives (k : Int) : Calls Try.prog 23 #[dval d A cap, .int .i64 k] w (GivesD w A d.data (truncF d k)) := by
  obtain ⟨s, xs, du, le, dn⟩ := d
  have hle := hx.le
  have hmx := hx.max
  simp only at hle
  cases ho : okD ⟨s, xs, du, le, dn⟩
  · have e : truncF ⟨s, xs, du, le, dn⟩ k = (dz, 2) := by unfold truncF; rw [ho]; rfl
    rw [e]
    exact (rtrunc_bad s A xs.length cap du le dn k w ho).mono fun _ _ h => gives_z h
  · cases dn
    · by_cases h0 : k < 0
      · have e : truncF ⟨s, xs, du, le, false⟩ k = (dz, 2) := by unfold truncF; rw [if_pos ho, if_neg (by simp), if_pos (.inl h0)]
        rw [e]
        exact (rtrunc_low s A xs.length cap du le k w ho h0).mono fun _ _ h => gives_z h
      · by_cases h1 : (xs.length : Int) < k
        · have e : truncF ⟨s, xs, du, le, false⟩ k = (dz, 2) := by unfold truncF; rw [if_pos ho, if_neg (by simp), if_pos (.inr h1)]
          rw [e]
          exact (rtrunc_high s A xs.length cap du le k w ho h1).mono fun _ _ h => gives_z h
        · have e : truncF ⟨s, xs, du, le, false⟩ k = (⟨s, xs.take k.toNat, min du k, le, false⟩, 0) := by unfold truncF; rw [if_pos ho, if_neg (by simp), if_neg (by simp only; omega)]
          rw [e]
          obtain ⟨n, rfl⟩ := Int.eq_ofNat_of_zero_le (show 0 ≤ k by omega)
          have hl : (xs.take n).length = n := by rw [List.length_take]; omega
          by_cases hd : (n : Int) < du
          · refine (rtrunc_lt s A cap xs du le n w ho (by omega) hd hx).mono ?_
            rintro e w' ⟨A2, c2, rfl, hs, hst, hb⟩
            refine ⟨A2, c2, ?_, ?_, ?_, hb⟩
            · simp only [dval, Int.toNat_natCast, hl, show min du (n : Int) = n by omega]
            · rw [Int.toNat_natCast]; exact hs
            · rw [Int.toNat_natCast]; exact hst
          · refine (rtrunc_ge s A cap xs du le n w ho (by omega) (by omega) hx).mono ?_
            rintro e w' ⟨A2, c2, rfl, hs, hst, hb⟩
            refine ⟨A2, c2, ?_, ?_, ?_, hb⟩
            · simp only [dval, Int.toNat_natCast, hl, show min du (n : Int) = du by omega]
            · rw [Int.toNat_natCast]; exact hs
            · rw [Int.toNat_natCast]; exact hst
    · have e : truncF ⟨s, xs, du, le, true⟩ k = (⟨s, xs, du, le, true⟩, 19) := by unfold truncF; rw [if_pos ho, if_pos rfl]
      rw [e]
      refine (rtrunc_down s A xs.length cap du le k w ho).mono ?_
      rintro e w' ⟨rfl, hb⟩
      exact ⟨A, cap, rfl, hx.keep hb, Stays.refl _ _ _, hb⟩

theorem rcrash_gives (k : Int) : Calls Try.prog 25 #[dval d A cap, .int .i64 k] w (Gives1 w A d.data (crashF d k)) := by
  obtain ⟨s, xs, du, le, dn⟩ := d
  have hle := hx.le
  have hmx := hx.max
  simp only at hle
  cases ho : okD ⟨s, xs, du, le, dn⟩
  · have e : crashF ⟨s, xs, du, le, dn⟩ k = ⟨s, xs, du, le, dn⟩ := by unfold crashF; rw [ho]; rfl
    rw [e]
    refine (rcrash_bad s A xs.length cap du le dn k w ho).mono ?_
    rintro e w' ⟨rfl, hb⟩
    exact ⟨A, cap, rfl, hx.keep hb, Stays.refl _ _ _, hb⟩
  · obtain ⟨h1, h2, h3, h4, h5, h6, h7⟩ := (okD_iff _).1 ho
    simp only at h1 h2 h3 h4 h5 h6 h7
    have e : crashF ⟨s, xs, du, le, dn⟩ k = ⟨s, xs.take (crashN ⟨s, xs, du, le, dn⟩ k).toNat, crashN ⟨s, xs, du, le, dn⟩ k, -1, false⟩ := by unfold crashF; rw [if_pos ho]
    rw [e]
    have hend : ∀ (K : Int), crashN ⟨s, xs, du, le, dn⟩ k = K → ∀ (e : Ending) (w' : World), (∃ A2 c2, e = .returned (.agg #[.int .i64 s, .slice A2 K.toNat c2, .int .i64 K, .int .i64 (-1), .bool false]) ∧ Sl w' A2 c2 (xs.take K.toNat) ∧ Stays w.heap.size A xs A2 (xs.take K.toNat) ∧ Below w.heap.size w w') → Gives1 w A xs ⟨s, xs.take (crashN ⟨s, xs, du, le, dn⟩ k).toNat, crashN ⟨s, xs, du, le, dn⟩ k, -1, false⟩ e w' := by
      rintro K hK e w' ⟨A2, c2, rfl, hs, hst, hb⟩
      have h0 : 0 ≤ K ∧ K ≤ xs.length := by rw [← hK]; unfold crashN; simp only; omega
      rw [hK]
      have hl : (xs.take K.toNat).length = K.toNat := by rw [List.length_take]; omega
      refine ⟨A2, c2, ?_, hs, hst, hb⟩
      simp only [dval, hl]
    by_cases hk : k ≤ 0
    · exact (rcrash_lo s A cap xs du le dn k w ho hk hx).mono (hend du (by unfold crashN; simp only; omega))
    · by_cases hz : (xs.length : Int) - du ≤ 0
      · exact (rcrash_lo2 s A cap xs du le dn k w ho (by omega) hz hx).mono (hend du (by unfold crashN; simp only; omega))
      · by_cases hk2 : k ≤ xs.length - du
        · exact (rcrash_mid s A cap xs du le dn k w ho (by omega) hk2 hx).mono (hend (du + k) (by unfold crashN; simp only; omega))
        · exact (rcrash_hi s A cap xs du le dn k w ho (by omega) (by omega) hx).mono (hend (du + (xs.length - du)) (by unfold crashN; simp only; omega))
end
end Go.Proofs.Ytdchodjfgeglgaa
