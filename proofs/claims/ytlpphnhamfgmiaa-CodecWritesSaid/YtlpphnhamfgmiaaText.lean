import Derived.Test.YtlpphnhamfgmiaaRInt
import Derived.Laws.BytesArg
import Derived.Laws.IdiomStrings
import Derived.WalkSpells
namespace Go.Proofs.Ytlpphnhamfgmiaa
open Go.ChangeShapes Go.WideShapes Go.ChangeAt Go.RowKit

theorem decGo_cases : ∀ (f i u : Nat) (l : List Int), decGo f i u l = (0, 0, 8) ∨ decGo f i u l = (0, 0, 10) ∨ ∃ (N n : Nat), decGo f i u l = (unzig N, (n : Int), 0) ∧ i + 1 ≤ n ∧ n ≤ i + f ∧ n ≤ i + l.length
  | 0, _, _, _ => .inr (.inl rfl)
  | _ + 1, _, _, [] => .inl rfl
  | f + 1, i, u, c :: l => by
    simp only [decGo]
    split
    · exact .inr (.inl rfl)
    · split
      · rcases decGo_cases f (i + 1) (u + (c % 128).toNat * 128 ^ i) l with h | h | ⟨N, n, h, h1, h2, h3⟩
        · exact .inl h
        · exact .inr (.inl h)
        · exact .inr (.inr ⟨N, n, h, by omega, by omega, by simp; omega⟩)
      · split
        · exact .inr (.inl rfl)
        · exact .inr (.inr ⟨_, i + 1, rfl, by omega, by omega, by simp⟩)
theorem dec_cases (l : List Int) : dec l = (0, 0, 8) ∨ dec l = (0, 0, 10) ∨ ∃ (N n : Nat), dec l = (unzig N, (n : Int), 0) ∧ 1 ≤ n ∧ n ≤ 10 ∧ n ≤ l.length := by
  rcases decGo_cases 10 0 0 l with h | h | ⟨N, n, h, h1, h2, h3⟩
  · exact .inl h
  · exact .inr (.inl h)
  · exact .inr (.inr ⟨N, n, h, by omega, by omega, by omega⟩)

/-- reading a text: its bytes, its size, the error -/
def decText (l : List Int) (most : Int) : List Int × Int × Int :=
  if (dec l).2.2 ≠ 0 then ([], 0, (dec l).2.2)
  else if (dec l).1 < 0 then ([], 0, 10)
  else if most < (dec l).1 then ([], 0, 7)
  else if (l.length : Int) - (dec l).2.1 < (dec l).1 then ([], 0, 8)
  else ((l.drop (dec l).2.1.toNat).take (dec l).1.toNat, (dec l).2.1 + (dec l).1, 0)
def tripT (r : List Int × Int × Int) : Ending := .returned (.tuple #[.string (strOfNums r.1), .int .i64 r.2.1, .int .i64 r.2.2])
theorem tripT_of {a : List Int} {b c : Int} {r : List Int × Int × Int} (h : r = (a, b, c)) : Ending.returned (.tuple #[.string (strOfNums a), .int .i64 b, .int .i64 c]) = tripT r := by rw [h]; rfl

theorem tripT_err {b c : Int} {r : List Int × Int × Int} (h : r = ([], b, c)) : Ending.returned (.tuple #[.string ⟨#[]⟩, .int .i64 b, .int .i64 c]) = tripT r := by rw [h]; rfl

set_option maxHeartbeats 800000 in
theorem text_any (a : Option Addr) (n cap : Nat) (most : Int) (zs : List Int) (w : World) (hn : n = zs.length) (hm : zs.length ≤ 9223372036854775807) (hcap : zs.length ≤ cap) (hin : InB zs) (hb : BRow w a zs) :
    Calls Try.prog 18 #[.slice a n cap, .int .i64 most] w fun e w' => e = tripT (decText zs most) ∧ w = w' := by
  have hint := int_row a n cap zs w hn hm hin hb
  subst hn
  rcases dec_cases zs with h | h | ⟨N, k, h, h1, h2, h3⟩
  · have hfin : decText zs most = ([], 0, 8) := by unfold decText; rw [h]; rfl
    rw [h] at hint
    simp only [trip] at hint
    have Hf := Lib.hid hfin
    have Hi := Lib.hid hint
    clear h hfin hint
    go_enter Try.func18, Try.ntmps18
    go_wp2_with fail
    refine Hi.out.mono ?_
    rintro e w' ⟨rfl, rfl⟩
    go_wp2
    go_ret3
    exact ⟨tripT_err Hf.out, rfl⟩
  · have hfin : decText zs most = ([], 0, 10) := by unfold decText; rw [h]; rfl
    rw [h] at hint
    simp only [trip] at hint
    have Hf := Lib.hid hfin
    have Hi := Lib.hid hint
    clear h hfin hint
    go_enter Try.func18, Try.ntmps18
    go_wp2_with fail
    refine Hi.out.mono ?_
    rintro e w' ⟨rfl, rfl⟩
    go_wp2
    go_ret3
    exact ⟨tripT_err Hf.out, rfl⟩
  · generalize hv : unzig N = v at h
    have hfin : decText zs most = if v < 0 then ([], 0, 10) else if most < v then ([], 0, 7) else if (zs.length : Int) - k < v then ([], 0, 8)
       else ((zs.drop k).take v.toNat, k + v, 0) := by unfold decText; rw [h]; rfl
    rw [h] at hint
    simp only [trip] at hint
    have Hf := Lib.hid hfin
    have Hi := Lib.hid hint
    clear h hfin hint hv
    by_cases c1 : v < 0
    · go_enter Try.func18, Try.ntmps18
      go_wp2_with fail
      refine Hi.out.mono ?_
      rintro e w' ⟨rfl, rfl⟩
      go_wp2
      go_ret3
      exact ⟨tripT_err (by rw [Hf.out, if_pos c1]), rfl⟩
    · by_cases c2 : most < v
      · go_enter Try.func18, Try.ntmps18
        go_wp2_with fail
        refine Hi.out.mono ?_
        rintro e w' ⟨rfl, rfl⟩
        go_wp2
        go_ret3
        exact ⟨tripT_err (by rw [Hf.out, if_neg (by omega), if_pos c2]), rfl⟩
      · by_cases c3 : (zs.length : Int) - k < v
        · go_enter Try.func18, Try.ntmps18
          go_wp2_with fail
          refine Hi.out.mono ?_
          rintro e w' ⟨rfl, rfl⟩
          go_wp2
          go_ret3
          exact ⟨tripT_err (by rw [Hf.out, if_neg (by omega), if_neg (by omega), if_pos c3]), rfl⟩
        · rcases hb with rfl | ⟨b, off, rfl, hc⟩
          · simp at h3; omega
          obtain ⟨m, rfl⟩ := Int.eq_ofNat_of_zero_le (Int.not_lt.1 c1)
          have hfin : decText zs most = ((zs.drop k).take m, (k : Int) + (m : Int), 0) := by rw [Hf.out, if_neg c1, if_neg c2, if_neg c3]; rfl
          have Hf2 := Lib.hid hfin
          clear Hf hfin
          by_cases hck : cap = k
          · obtain rfl : m = 0 := by omega
            subst hck
            have hconv := run_convert_bytes_arg (P := Try.prog) w 22 5 Try.underlying22 Try.underlying5 b off 0 0 [] rfl (fun i hi => by omega) 9 Try.underlying9
            go_enter Try.func18, Try.ntmps18
            go_wp2_with fail
            refine Hi.out.mono ?_
            rintro e w' ⟨rfl, rfl⟩
            go_wp2
            go_ret3
            exact ⟨tripT_of (by rw [Hf2.out]; simp), rfl⟩
          · have hl : ((zs.drop k).take m).length = m := by rw [List.length_take, List.length_drop]; omega
            have hconv := run_convert_bytes_arg (P := Try.prog) w 22 5 Try.underlying22 Try.underlying5 b (off + k) m (cap - k) ((zs.drop k).take m) hl (fun i hi => by
              have := hc (k + i) (by omega)
              rw [Nat.add_assoc, this]
              simp [List.getD, hi]) 9 Try.underlying9
            clear hl
            go_enter Try.func18, Try.ntmps18
            go_wp2_with fail
            refine Hi.out.mono ?_
            rintro e w' ⟨rfl, rfl⟩
            go_wp2
            go_ret3
            exact ⟨tripT_of Hf2.out, rfl⟩
set_option maxHeartbeats 800000 in
theorem rtext_any (a : Option Addr) (n cap : Nat) (most : Int) (zs : List Int) (w : World) (hn : n = zs.length) (hm : zs.length ≤ 9223372036854775807) (hcap : zs.length ≤ cap) (hin : InB zs) (hb : BRow w a zs) :
    Calls Try.prog 19 #[.slice a n cap, .int .i64 most] w fun e w' => e = tripT (decText zs most) ∧ w = w' := by
  have hint := rint_row a n cap zs w hn hm hin hb
  subst hn
  rcases dec_cases zs with h | h | ⟨N, k, h, h1, h2, h3⟩
  · have hfin : decText zs most = ([], 0, 8) := by unfold decText; rw [h]; rfl
    rw [h] at hint
    simp only [trip] at hint
    have Hf := Lib.hid hfin
    have Hi := Lib.hid hint
    clear h hfin hint
    go_enter Try.func19, Try.ntmps19
    go_wp2_with fail
    refine Hi.out.mono ?_
    rintro e w' ⟨rfl, rfl⟩
    go_wp2
    go_ret3
    exact ⟨tripT_err Hf.out, rfl⟩
  · have hfin : decText zs most = ([], 0, 10) := by unfold decText; rw [h]; rfl
    rw [h] at hint
    simp only [trip] at hint
    have Hf := Lib.hid hfin
    have Hi := Lib.hid hint
    clear h hfin hint
    go_enter Try.func19, Try.ntmps19
    go_wp2_with fail
    refine Hi.out.mono ?_
    rintro e w' ⟨rfl, rfl⟩
    go_wp2
    go_ret3
    exact ⟨tripT_err Hf.out, rfl⟩
  · generalize hv : unzig N = v at h
    have hfin : decText zs most = if v < 0 then ([], 0, 10) else if most < v then ([], 0, 7) else if (zs.length : Int) - k < v then ([], 0, 8)
       else ((zs.drop k).take v.toNat, k + v, 0) := by unfold decText; rw [h]; rfl
    rw [h] at hint
    simp only [trip] at hint
    have Hf := Lib.hid hfin
    have Hi := Lib.hid hint
    clear h hfin hint hv
    by_cases c1 : v < 0
    · go_enter Try.func19, Try.ntmps19
      go_wp2_with fail
      refine Hi.out.mono ?_
      rintro e w' ⟨rfl, rfl⟩
      go_wp2
      go_ret3
      exact ⟨tripT_err (by rw [Hf.out, if_pos c1]), rfl⟩
    · by_cases c2 : most < v
      · go_enter Try.func19, Try.ntmps19
        go_wp2_with fail
        refine Hi.out.mono ?_
        rintro e w' ⟨rfl, rfl⟩
        go_wp2
        go_ret3
        exact ⟨tripT_err (by rw [Hf.out, if_neg (by omega), if_pos c2]), rfl⟩
      · by_cases c3 : (zs.length : Int) - k < v
        · go_enter Try.func19, Try.ntmps19
          go_wp2_with fail
          refine Hi.out.mono ?_
          rintro e w' ⟨rfl, rfl⟩
          go_wp2
          go_ret3
          exact ⟨tripT_err (by rw [Hf.out, if_neg (by omega), if_neg (by omega), if_pos c3]), rfl⟩
        · rcases hb with rfl | ⟨b, off, rfl, hc⟩
          · simp at h3; omega
          obtain ⟨m, rfl⟩ := Int.eq_ofNat_of_zero_le (Int.not_lt.1 c1)
          have hfin : decText zs most = ((zs.drop k).take m, (k : Int) + (m : Int), 0) := by rw [Hf.out, if_neg c1, if_neg c2, if_neg c3]; rfl
          have Hf2 := Lib.hid hfin
          clear Hf hfin
          by_cases hck : cap = k
          · obtain rfl : m = 0 := by omega
            subst hck
            have hconv := run_convert_bytes_arg (P := Try.prog) w 22 5 Try.underlying22 Try.underlying5 b off 0 0 [] rfl (fun i hi => by omega) 9 Try.underlying9
            go_enter Try.func19, Try.ntmps19
            go_wp2_with fail
            refine Hi.out.mono ?_
            rintro e w' ⟨rfl, rfl⟩
            go_wp2
            go_ret3
            exact ⟨tripT_of (by rw [Hf2.out]; simp), rfl⟩
          · have hl : ((zs.drop k).take m).length = m := by rw [List.length_take, List.length_drop]; omega
            have hconv := run_convert_bytes_arg (P := Try.prog) w 22 5 Try.underlying22 Try.underlying5 b (off + k) m (cap - k) ((zs.drop k).take m) hl (fun i hi => by
              have := hc (k + i) (by omega)
              rw [Nat.add_assoc, this]
              simp [List.getD, hi]) 9 Try.underlying9
            clear hl
            go_enter Try.func19, Try.ntmps19
            go_wp2_with fail
            refine Hi.out.mono ?_
            rintro e w' ⟨rfl, rfl⟩
            go_wp2
            go_ret3
            exact ⟨tripT_of Hf2.out, rfl⟩
end Go.Proofs.Ytlpphnhamfgmiaa
