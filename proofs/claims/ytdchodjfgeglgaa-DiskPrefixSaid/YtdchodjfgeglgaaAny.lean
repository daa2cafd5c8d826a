/- One contract for each operation of the disk: it gives what the plain function gives. -/
import Derived.Test.YtdchodjfgeglgaaEarly
import Derived.Test.YtdchodjfgeglgaaApp
import Derived.Test.YtdchodjfgeglgaaCut
import Derived.Test.YtdchodjfgeglgaaOps
import Derived.Test.YtdchodjfgeglgaaOps2
namespace Go.Proofs.Ytdchodjfgeglgaa
open Go.ChangeShapes Go.WideShapes Go.ChangeAt Go.RowKit

def dval (d : Dk) (A : Option Addr) (c : Nat) : Value := .agg #[.int .i64 d.size, .slice A d.data.length c, .int .i64 d.dur, .int .i64 d.left, .bool d.down]
/-- a disk and an error are returned -/
def GivesD (w : World) (A0 : Option Addr) (x0 : List Int) (r : Dk × Int) (e : Ending) (w' : World) : Prop :=
  ∃ A c, e = .returned (.tuple #[dval r.1 A c, .int .i64 r.2]) ∧ Sl w' A c r.1.data ∧ Stays w.heap.size A0 x0 A r.1.data ∧ Below w.heap.size w w'
/-- a disk is returned -/
def Gives1 (w : World) (A0 : Option Addr) (x0 : List Int) (r : Dk) (e : Ending) (w' : World) : Prop :=
  ∃ A c, e = .returned (dval r A c) ∧ Sl w' A c r.data ∧ Stays w.heap.size A0 x0 A r.data ∧ Below w.heap.size w w'
theorem gives_z {w w' : World} {A0 : Option Addr} {x0 : List Int} {e : Ending} {x : Int} (h : e = .returned (.tuple #[.agg #[.int .i64 0, .slice none 0 0, .int .i64 0, .int .i64 0, .bool false], .int .i64 x]) ∧ Below w.heap.size w w') : GivesD w A0 x0 (dz, x) e w' :=
  ⟨none, 0, h.1, Sl.nil w' none 0 (by decide), Stays.nil _ _ _ _, h.2⟩
theorem okD_of {d : Dk} {b : Bool} (h : okD d = b) : okB d.size d.data.length d.dur d.left = b := h

section
variable (d : Dk) (A : Option Addr) (cap : Nat) (w : World) (hx : Sl w A cap d.data)
include hx

theorem append_gives (B : Option Addr) (cb : Nat) (ys : List Int) (hy : Sl w B cb ys) (m : Nat) (hm : m = ys.length) : Calls Try.prog 18 #[dval d A cap, .slice B m cb] w (GivesD w A d.data (appF d ys)) := by
  subst hm
  obtain ⟨s, xs, du, le, dn⟩ := d
  cases ho : okD ⟨s, xs, du, le, dn⟩
  · have e : appF ⟨s, xs, du, le, dn⟩ ys = (dz, 2) := by unfold appF; rw [ho]; rfl
    rw [e]
    exact (append_bad s A xs.length cap du le dn B ys.length cb w ho).mono fun _ _ h => gives_z h
  · obtain ⟨h1, h2, h3, h4, h5, h6, h7⟩ := (okD_iff _).1 ho
    simp only at h1 h2 h3 h4 h5 h6 h7
    cases dn
    · by_cases hf : s < xs.length + ys.length
      · have e : appF ⟨s, xs, du, le, false⟩ ys = (dz, 6) := by unfold appF; rw [if_pos ho, if_neg (by simp), if_pos hf]
        rw [e]
        exact (append_full s A xs.length cap du le B ys.length cb w ho hf).mono fun _ _ h => gives_z h
      · by_cases hc : 0 ≤ le ∧ le < ys.length
        · have e : appF ⟨s, xs, du, le, false⟩ ys = (⟨s, xs ++ ys.take le.toNat, du, 0, true⟩, 19) := by unfold appF; rw [if_pos ho, if_neg (by simp), if_neg hf, if_pos hc]
          rw [e]
          obtain ⟨k, rfl⟩ := Int.eq_ofNat_of_zero_le hc.1
          refine (append_cut s A cap xs du k B cb ys w ho (by omega) (by omega) hx hy).mono ?_
          rintro e w' ⟨A2, c2, rfl, hs, hst, hb⟩
          refine ⟨A2, c2, ?_, by simpa using hs, by simpa using hst, hb⟩
          simp [dval]
        · by_cases h0 : le = -1
          · have e : appF ⟨s, xs, du, le, false⟩ ys = (⟨s, xs ++ ys, du, -1, false⟩, 0) := by unfold appF; rw [if_pos ho, if_neg (by simp), if_neg hf, if_neg hc, if_neg (by simp only; omega)]
            rw [e]
            subst h0
            refine (append_all s A cap xs du (-1) B cb ys w ho (by omega) rfl hx hy).mono ?_
            rintro e w' ⟨A2, c2, rfl, hs, hst, hb⟩
            exact ⟨A2, c2, by simp [dval], hs, hst, hb⟩
          · have e : appF ⟨s, xs, du, le, false⟩ ys = (⟨s, xs ++ ys, du, le - ys.length, false⟩, 0) := by unfold appF; rw [if_pos ho, if_neg (by simp), if_neg hf, if_neg hc, if_pos (by simp only; omega)]
            rw [e]
            refine (append_le s A cap xs du le B cb ys w ho (by omega) (by omega) hx hy).mono ?_
            rintro e w' ⟨A2, c2, rfl, hs, hst, hb⟩
            exact ⟨A2, c2, by simp [dval], hs, hst, hb⟩
    · have e : appF ⟨s, xs, du, le, true⟩ ys = (⟨s, xs, du, le, true⟩, 19) := by unfold appF; rw [if_pos ho, if_pos rfl]
      rw [e]
      refine (append_down s A xs.length cap du le B ys.length cb w ho).mono ?_
      rintro e w' ⟨rfl, hb⟩
      exact ⟨A, cap, rfl, hx.keep hb, Stays.refl _ _ _, hb⟩

theorem sync_gives : Calls Try.prog 19 #[dval d A cap] w (GivesD w A d.data (syncF d)) := by
  obtain ⟨s, xs, du, le, dn⟩ := d
  cases ho : okD ⟨s, xs, du, le, dn⟩
  · have e : syncF ⟨s, xs, du, le, dn⟩ = (dz, 2) := by unfold syncF; rw [ho]; rfl
    rw [e]
    exact (sync_bad s A xs.length cap du le dn w ho).mono fun _ _ h => gives_z h
  · cases dn
    · by_cases h0 : le = 0
      · subst h0
        have e : syncF ⟨s, xs, du, 0, false⟩ = (⟨s, xs, du, 0, true⟩, 19) := by unfold syncF; rw [if_pos ho, if_neg (by simp), if_pos rfl]
        rw [e]
        refine (sync_zero s A xs.length cap du w ho).mono ?_
        rintro e w' ⟨rfl, hb⟩
        exact ⟨A, cap, rfl, hx.keep hb, Stays.refl _ _ _, hb⟩
      · have e : syncF ⟨s, xs, du, le, false⟩ = (⟨s, xs, xs.length, le, false⟩, 0) := by unfold syncF; rw [if_pos ho, if_neg (by simp), if_neg h0]
        rw [e]
        refine (sync_ok s A xs.length cap du le w ho (by simpa using h0)).mono ?_
        rintro e w' ⟨rfl, hb⟩
        exact ⟨A, cap, rfl, hx.keep hb, Stays.refl _ _ _, hb⟩
    · have e : syncF ⟨s, xs, du, le, true⟩ = (⟨s, xs, du, le, true⟩, 19) := by unfold syncF; rw [if_pos ho, if_pos rfl]
      rw [e]
      refine (sync_down s A xs.length cap du le w ho).mono ?_
      rintro e w' ⟨rfl, hb⟩
      exact ⟨A, cap, rfl, hx.keep hb, Stays.refl _ _ _, hb⟩

theorem arm_gives (k : Int) : Calls Try.prog 20 #[dval d A cap, .int .i64 k] w (GivesD w A d.data (armF d k)) := by
  obtain ⟨s, xs, du, le, dn⟩ := d
  cases ho : okD ⟨s, xs, du, le, dn⟩
  · have e : armF ⟨s, xs, du, le, dn⟩ k = (dz, 2) := by unfold armF; rw [ho]; rfl
    rw [e]
    exact (arm_bad s A xs.length cap du le dn k w ho).mono fun _ _ h => gives_z h
  · cases dn
    · by_cases h0 : k < 0
      · have e : armF ⟨s, xs, du, le, false⟩ k = (dz, 2) := by unfold armF; rw [if_pos ho, if_neg (by simp), if_pos (.inl h0)]
        rw [e]
        exact (arm_low s A xs.length cap du le k w ho h0).mono fun _ _ h => gives_z h
      · by_cases h1 : 1048576 < k
        · have e : armF ⟨s, xs, du, le, false⟩ k = (dz, 2) := by unfold armF; rw [if_pos ho, if_neg (by simp), if_pos (.inr h1)]
          rw [e]
          exact (arm_high s A xs.length cap du le k w ho h1).mono fun _ _ h => gives_z h
        · have e : armF ⟨s, xs, du, le, false⟩ k = (⟨s, xs, du, k, false⟩, 0) := by unfold armF; rw [if_pos ho, if_neg (by simp), if_neg (by omega)]
          rw [e]
          refine (arm_ok s A xs.length cap du le k w ho (by omega) (by omega)).mono ?_
          rintro e w' ⟨rfl, hb⟩
          exact ⟨A, cap, rfl, hx.keep hb, Stays.refl _ _ _, hb⟩
    · have e : armF ⟨s, xs, du, le, true⟩ k = (⟨s, xs, du, le, true⟩, 19) := by unfold armF; rw [if_pos ho, if_pos rfl]
      rw [e]
      refine (arm_down s A xs.length cap du le k w ho).mono ?_
      rintro e w' ⟨rfl, hb⟩
      exact ⟨A, cap, rfl, hx.keep hb, Stays.refl _ _ _, hb⟩

theorem trunc_gives (k : Int) : Calls Try.prog 21 #[dval d A cap, .int .i64 k] w (GivesD w A d.data (truncF d k)) := by
  obtain ⟨s, xs, du, le, dn⟩ := d
  have hle := hx.le
  have hmx := hx.max
  simp only at hle
  cases ho : okD ⟨s, xs, du, le, dn⟩
  · have e : truncF ⟨s, xs, du, le, dn⟩ k = (dz, 2) := by unfold truncF; rw [ho]; rfl
    rw [e]
    exact (trunc_bad s A xs.length cap du le dn k w ho).mono fun _ _ h => gives_z h
  · cases dn
    · by_cases h0 : k < 0
      · have e : truncF ⟨s, xs, du, le, false⟩ k = (dz, 2) := by unfold truncF; rw [if_pos ho, if_neg (by simp), if_pos (.inl h0)]
        rw [e]
        exact (trunc_low s A xs.length cap du le k w ho h0).mono fun _ _ h => gives_z h
      · by_cases h1 : (xs.length : Int) < k
        · have e : truncF ⟨s, xs, du, le, false⟩ k = (dz, 2) := by unfold truncF; rw [if_pos ho, if_neg (by simp), if_pos (.inr h1)]
          rw [e]
          exact (trunc_high s A xs.length cap du le k w ho h1).mono fun _ _ h => gives_z h
        · have e : truncF ⟨s, xs, du, le, false⟩ k = (⟨s, xs.take k.toNat, min du k, le, false⟩, 0) := by unfold truncF; rw [if_pos ho, if_neg (by simp), if_neg (by simp only; omega)]
          rw [e]
          obtain ⟨n, rfl⟩ := Int.eq_ofNat_of_zero_le (show 0 ≤ k by omega)
          have hl : (xs.take n).length = n := by rw [List.length_take]; omega
          by_cases hd : (n : Int) < du
          · refine (trunc_lt s A xs.length cap du le n w ho (by omega) hle hmx hd).mono ?_
            rintro e w' ⟨rfl, hb⟩
            refine ⟨A, n, ?_, ?_, Stays.take _ _ _ _, hb⟩
            · simp only [dval, Int.toNat_natCast, hl, show min du (n : Int) = n by omega]
            · rw [Int.toNat_natCast]; exact (hx.keep hb).take n (Nat.le_of_eq hl) (by omega)
          · refine (trunc_ge s A xs.length cap du le n w ho (by omega) hle hmx (by omega)).mono ?_
            rintro e w' ⟨rfl, hb⟩
            refine ⟨A, n, ?_, ?_, Stays.take _ _ _ _, hb⟩
            · simp only [dval, Int.toNat_natCast, hl, show min du (n : Int) = du by omega]
            · rw [Int.toNat_natCast]; exact (hx.keep hb).take n (Nat.le_of_eq hl) (by omega)
    · have e : truncF ⟨s, xs, du, le, true⟩ k = (⟨s, xs, du, le, true⟩, 19) := by unfold truncF; rw [if_pos ho, if_pos rfl]
      rw [e]
      refine (trunc_down s A xs.length cap du le k w ho).mono ?_
      rintro e w' ⟨rfl, hb⟩
      exact ⟨A, cap, rfl, hx.keep hb, Stays.refl _ _ _, hb⟩

theorem crash_gives (k : Int) : Calls Try.prog 17 #[dval d A cap, .int .i64 k] w (Gives1 w A d.data (crashF d k)) := by
  obtain ⟨s, xs, du, le, dn⟩ := d
  have hle := hx.le
  have hmx := hx.max
  simp only at hle
  cases ho : okD ⟨s, xs, du, le, dn⟩
  · have e : crashF ⟨s, xs, du, le, dn⟩ k = ⟨s, xs, du, le, dn⟩ := by unfold crashF; rw [ho]; rfl
    rw [e]
    refine (crash_bad s A xs.length cap du le dn k w ho).mono ?_
    rintro e w' ⟨rfl, hb⟩
    exact ⟨A, cap, rfl, hx.keep hb, Stays.refl _ _ _, hb⟩
  · obtain ⟨h1, h2, h3, h4, h5, h6, h7⟩ := (okD_iff _).1 ho
    simp only at h1 h2 h3 h4 h5 h6 h7
    have e : crashF ⟨s, xs, du, le, dn⟩ k = ⟨s, xs.take (crashN ⟨s, xs, du, le, dn⟩ k).toNat, crashN ⟨s, xs, du, le, dn⟩ k, -1, false⟩ := by unfold crashF; rw [if_pos ho]
    rw [e]
    have hend : ∀ (K : Int), crashN ⟨s, xs, du, le, dn⟩ k = K → ∀ w' : World, Below w.heap.size w w' → Gives1 w A xs ⟨s, xs.take (crashN ⟨s, xs, du, le, dn⟩ k).toNat, crashN ⟨s, xs, du, le, dn⟩ k, -1, false⟩ (.returned (.agg #[.int .i64 s, .slice A K.toNat K.toNat, .int .i64 K, .int .i64 (-1), .bool false])) w' := by
      rintro K hK w' hb
      have h0 : 0 ≤ K ∧ K ≤ xs.length := by rw [← hK]; unfold crashN; simp only; omega
      rw [hK]
      have hl : (xs.take K.toNat).length = K.toNat := by rw [List.length_take]; omega
      refine ⟨A, K.toNat, ?_, (hx.keep hb).take _ (Nat.le_of_eq hl) (by omega), Stays.take _ _ _ _, hb⟩
      simp only [dval, hl]
    by_cases hk : k < 0
    · refine (crash_lo s A xs.length cap du le dn k w ho hle hmx hk).mono ?_
      rintro e w' ⟨rfl, hb⟩
      exact hend du (by unfold crashN; simp only; omega) w' hb
    · by_cases hk2 : k ≤ xs.length - du
      · refine (crash_mid s A xs.length cap du le dn k w ho hle hmx (by omega) hk2).mono ?_
        rintro e w' ⟨rfl, hb⟩
        exact hend (du + k) (by unfold crashN; simp only; omega) w' hb
      · refine (crash_hi s A xs.length cap du le dn k w ho hle hmx (by omega) (by omega)).mono ?_
        rintro e w' ⟨rfl, hb⟩
        exact hend (du + (xs.length - du)) (by unfold crashN; simp only; omega) w' hb
end
end Go.Proofs.Ytdchodjfgeglgaa
