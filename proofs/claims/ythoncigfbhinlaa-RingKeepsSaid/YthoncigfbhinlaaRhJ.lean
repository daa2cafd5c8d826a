/- ring: what Take returns after Put. -/
import Derived.Test.YthoncigfbhinlaaRhH
namespace Go.Proofs.Ythoncigfbhinlaa
open Go Go.RowKit
set_option linter.unusedVariables false
set_option linter.unusedSimpArgs false
set_option maxHeartbeats 2000000

theorem decGo_pre (X : List Nat) : ∀ (f i u : Nat) (l : List Nat), (decGo f i u l).2.2 = 0 → decGo f i u (l ++ X) = decGo f i u l
  | 0, i, u, l, h => by simp [decGo] at h
  | f + 1, i, u, [], h => by simp [decGo] at h
  | f + 1, i, u, c :: l, h => by
    simp only [decGo, List.cons_append] at h ⊢
    split
    · rfl
    · rename_i h1
      rw [if_neg h1] at h
      split
      · rename_i h2
        rw [if_pos h2] at h
        exact decGo_pre X f (i + 1) _ l h
      · rfl
theorem unzig_even (n : Nat) : unzig (2 * n) = n := by
  unfold unzig
  rw [if_neg (by omega)]
  congr 1
  omega
theorem dec_put (n : Nat) (h : n < 8192) (X : List Nat) : dec (putF n ++ X) = ((n : Int), (putF n).length, 0) := by
  unfold dec putF
  by_cases c : n < 64
  · rw [if_pos c]
    have e : 0 + 2 * n % 128 * 128 ^ 0 = 2 * n := by omega
    simp only [List.cons_append, List.nil_append, decGo]
    rw [if_neg (by omega), if_neg (by omega), if_neg (by omega), e, unzig_even]
    rfl
  · rw [if_neg c]
    have e : 0 + (2 * n % 128 + 128) % 128 * 128 ^ 0 + 2 * n / 128 % 128 * 128 ^ 1 = 2 * n := by omega
    simp only [List.cons_append, List.nil_append, decGo]
    rw [if_neg (by omega), if_pos (by omega), if_neg (by omega), if_neg (by omega), if_neg (by omega)]
    have e2 : (0 + 1) = 1 := rfl
    rw [e2, e, unzig_even]
    rfl
theorem frameF_pre {b r : List Nat} {k : Nat} (X : List Nat) (h : frameF b = some (r, k)) : frameF (b ++ X) = some (r, k) := by
  have hk := frameF_size h
  unfold frameF at h ⊢
  split at h
  · rename_i hc
    have e : dec (b ++ X) = dec b := decGo_pre X 10 0 0 b hc.1
    have hs := decGo_size 10 0 0 b hc.1
    change 0 + 1 ≤ (dec b).2.1 ∧ (dec b).2.1 ≤ 0 + b.length at hs
    rw [e, if_pos ⟨hc.1, hc.2.1, hc.2.2.1, by rw [List.length_append]; omega⟩]
    cases h
    rw [List.drop_append_of_le_length (by omega), List.take_append_of_le_length (by rw [List.length_drop]; omega)]
  · cases h
theorem frameF_put {b : List Nat} (h : b.length ≤ 2000) : frameF (putF b.length ++ b) = some (b, (putF b.length ++ b).length) := by
  have e := dec_put b.length (by omega) b
  unfold frameF
  rw [e]
  simp only
  rw [if_pos ⟨trivial, by omega, by omega, by rw [List.length_append]; omega⟩]
  have e1 : (putF b.length ++ b).drop (putF b.length).length = b := by simp
  rw [e1, Int.toNat_natCast, List.take_length, List.length_append]
theorem recF_app {G r : List Nat} (hG : frameF G = some (r, G.length)) : ∀ (n : Nat) (b : List Nat) (l : List (List Nat)), recF n b = some l → recF (n + 1) (b ++ G) = some (l ++ [r])
  | 0, b, l, h => by simp [recF] at h
  | n + 1, b, l, h => by
    have hs := frameF_size hG
    have hne : ¬ G = [] := fun h => by rw [h] at hs; simp at hs
    by_cases hb : b = []
    · subst hb
      simp only [recF, if_true] at h
      cases h
      rw [List.nil_append, recF, if_neg hne, hG]
      simp [recF]
    · rw [recF, if_neg hb] at h
      rw [recF, if_neg (fun h => hb (List.append_eq_nil_iff.1 h).1)]
      cases hf : frameF b with
      | none => rw [hf] at h; cases h
      | some q =>
        obtain ⟨r0, k⟩ := q
        rw [hf] at h
        have hk := frameF_size hf
        rw [frameF_pre G hf]
        simp only at h ⊢
        rw [List.drop_append_of_le_length (by omega)]
        cases hq : recF n (b.drop k) with
        | none => rw [hq] at h; cases h
        | some l0 =>
          rw [hq] at h
          cases h
          rw [recF_app hG n _ _ hq]
          rfl
theorem recF_more : ∀ (n m : Nat) (b : List Nat) (l : List (List Nat)), recF n b = some l → n ≤ m → recF m b = some l
  | 0, m, b, l, h, _ => by simp [recF] at h
  | n + 1, m, b, l, h, hm => by
    obtain ⟨m, rfl⟩ : ∃ q, m = q + 1 := ⟨m - 1, by omega⟩
    rw [recF] at h ⊢
    split
    · rename_i hb; rw [if_pos hb] at h; exact h
    · rename_i hb
      rw [if_neg hb] at h
      cases hf : frameF b with
      | none => rw [hf] at h; cases h
      | some q =>
        obtain ⟨r0, k⟩ := q
        rw [hf] at h
        simp only at h ⊢
        cases hq : recF n (b.drop k) with
        | none => rw [hq] at h; cases h
        | some l0 =>
          rw [hq] at h
          rw [recF_more n m _ _ hq (by omega)]
          exact h
theorem recF_fuel {n : Nat} {b : List Nat} {l : List (List Nat)} (h : recF n b = some l) : recF (b.length + 1) b = some l := by
  induction n generalizing b l with
  | zero => simp [recF] at h
  | succ n ih =>
    rw [recF] at h ⊢
    split
    · rename_i hb; rw [if_pos hb] at h; exact h
    · rename_i hb
      rw [if_neg hb] at h
      cases hf : frameF b with
      | none => rw [hf] at h; cases h
      | some q =>
        obtain ⟨r0, k⟩ := q
        rw [hf] at h
        have hk := frameF_size hf
        simp only at h ⊢
        cases hq : recF n (b.drop k) with
        | none => rw [hq] at h; cases h
        | some l0 =>
          rw [hq] at h
          rw [recF_more _ b.length _ _ (ih hq) (by rw [List.length_drop]; omega)]
          exact h
theorem recF_drop : ∀ (K n : Nat) (b : List Nat) (l : List (List Nat)), recF n b = some l → K ≤ l.length → recF n (b.drop (szsF (l.take K))) = some (l.drop K)
  | 0, n, b, l, h, _ => by simpa [szsF] using h
  | K + 1, 0, b, l, h, _ => by simp [recF] at h
  | K + 1, n + 1, b, l, h, hK => by
    by_cases hb : b = []
    · subst hb
      simp only [recF, if_true] at h
      cases h
      simp at hK
    · have h0 := h
      rw [recF, if_neg hb] at h
      cases hf : frameF b with
      | none => rw [hf] at h; cases h
      | some q =>
        obtain ⟨r0, k⟩ := q
        rw [hf] at h
        simp only at h
        cases hq : recF n (b.drop k) with
        | none => rw [hq] at h; cases h
        | some l0 =>
          rw [hq] at h
          cases h
          obtain ⟨hk, _⟩ := frameF_sz hf
          rw [List.take_succ_cons, szsF_cons, List.drop_succ_cons, ← hk, ← List.drop_drop]
          exact recF_more n (n + 1) _ _ (recF_drop K n _ _ hq (by simpa using hK)) (by omega)
theorem lstF_take (need : Nat) : ∀ (a : Nat) (l : List (List Nat)), (lstF need a l).2 = szsF (l.take (lstF need a l).1)
  | a, [] => by simp [lstF, szsF]
  | a, r :: l => by
    have ih := lstF_take need (a + szF r) l
    simp only [lstF]
    split
    · simp only [List.take_succ_cons, szsF_cons]; omega
    · simp [szsF]
theorem lstF_min (need : Nat) : ∀ (a : Nat) (l : List (List Nat)), 0 < (lstF need a l).1 → ∃ r, l[(lstF need a l).1 - 1]? = some r ∧ a + (lstF need a l).2 < need + szF r
  | a, [], h => by simp [lstF] at h
  | a, r :: l, h => by
    simp only [lstF] at h ⊢
    split at h
    · rename_i hc
      rw [if_pos hc]
      simp only at h ⊢
      rcases Nat.eq_zero_or_pos (lstF need (a + szF r) l).1 with h0 | h0
      · have := lstF_take need (a + szF r) l
        rw [h0] at this ⊢
        simp [szsF] at this
        exact ⟨r, rfl, by omega⟩
      · obtain ⟨x, h1, h2⟩ := lstF_min need (a + szF r) l h0
        refine ⟨x, ?_, by omega⟩
        obtain ⟨j, hj⟩ : ∃ j, (lstF need (a + szF r) l).1 = j + 1 := ⟨_, (Nat.succ_pred_eq_of_pos h0).symm⟩
        rw [hj] at h1 ⊢
        simpa using h1
    · simp at h
theorem lstF_room (need : Nat) : ∀ (a : Nat) (l : List (List Nat)), need ≤ a + szsF l → ¬ a + (lstF need a l).2 < need
  | a, [], h => by simp [szsF] at h; simp [lstF]; omega
  | a, r :: l, h => by
    rw [szsF_cons] at h
    have ih := lstF_room need (a + szF r) l (by omega)
    simp only [lstF]
    split <;> simp only <;> omega
/-- how far a place lies behind where the copy starts -/
theorem ahead {n x T : Nat} (hn : 0 < n) (h1 : T ≤ x) (h2 : x - T < n) : (x % n + n - T % n) % n = x - T := by
  have hx : x % n = (T % n + (x - T)) % n := by rw [Nat.mod_add_mod]; congr 1; omega
  have h3 := Nat.mod_lt T hn
  have h4 := Nat.mod_lt x hn
  rw [back_eq h3 h4]
  obtain ⟨t, ht⟩ := ex_eq (T % n)
  obtain ⟨r, hr⟩ := ex_eq (x % n)
  rw [ht, hr] at hx
  rw [ht] at h3
  rw [hr] at h4
  rw [ht, hr]
  have e1 : t + (x - T) < n → (t + (x - T)) % n = t + (x - T) := Nat.mod_eq_of_lt
  have e2 : n ≤ t + (x - T) → (t + (x - T)) % n = t + (x - T) - n := fun h => by rw [Nat.mod_eq_sub_mod h, Nat.mod_eq_of_lt (by omega)]
  by_cases c : t + (x - T) < n
  · rw [e1 c] at hx
    rw [if_pos (by omega)]; omega
  · rw [e2 (by omega)] at hx
    rw [if_neg (by omega)]; omega
theorem behind {n x T : Nat} (hn : 0 < n) (h1 : x < T) (h2 : T - x < n) : (x % n + n - T % n) % n = n - (T - x) := by
  have hT : T % n = (x % n + (T - x)) % n := by rw [Nat.mod_add_mod]; congr 1; omega
  have h3 := Nat.mod_lt T hn
  have h4 := Nat.mod_lt x hn
  rw [back_eq h3 h4]
  obtain ⟨t, ht⟩ := ex_eq (T % n)
  obtain ⟨r, hr⟩ := ex_eq (x % n)
  rw [ht, hr] at hT
  rw [ht] at h3
  rw [hr] at h4
  rw [ht, hr]
  have e1 : r + (T - x) < n → (r + (T - x)) % n = r + (T - x) := Nat.mod_eq_of_lt
  have e2 : n ≤ r + (T - x) → (r + (T - x)) % n = r + (T - x) - n := fun h => by rw [Nat.mod_eq_sub_mod h, Nat.mod_eq_of_lt (by omega)]
  by_cases c : r + (T - x) < n
  · rw [e1 c] at hT
    rw [if_neg (by omega)]; omega
  · rw [e2 (by omega)] at hT
    rw [if_pos (by omega)]; omega
theorem cont_put {D G : List Nat} {S T Z : Nat} (hTS : T - S ≤ D.length) (hS : S + Z ≤ T) (h0 : 0 < G.length) (h : T + G.length - (S + Z) ≤ D.length) : contF (wrF D T G G.length) (S + Z) (T + G.length - (S + Z)) = (contF D S (T - S)).drop Z ++ G := by
  have lw := wrF_len D T G G.length
  have hn : 0 < D.length := by omega
  have l1 : ((contF D S (T - S)).drop Z).length = T - S - Z := by rw [List.length_drop, contF_len (by omega)]
  have l2 : (contF (wrF D T G G.length) (S + Z) (T + G.length - (S + Z))).length = T + G.length - (S + Z) := contF_len (by omega)
  apply List.ext_getElem?
  intro j
  by_cases hj : j < T + G.length - (S + Z)
  · rw [contF_get (by omega) hj, lw, wrF_get D G T G.length (by omega) (Nat.le_refl _) _ (Nat.mod_lt _ hn), List.getElem?_append, l1]
    by_cases c : S + Z + j < T
    · rw [behind hn c (by omega), if_neg (by omega), if_pos (by omega), List.getElem?_drop, contF_get (by omega) (by omega)]
      congr 2
      omega
    · rw [ahead hn (by omega) (by omega), if_pos (by omega), if_neg (by omega)]
      congr 1
      omega
  · rw [List.getElem?_eq_none (by omega), List.getElem?_eq_none (by rw [List.length_append, l1]; omega)]
/-- Check after Put, and the records then -/
theorem err_put {p : Int} {D b : List Nat} {s e f m : Int} (h : errF p D s e f m = 0) (hb : ¬ 2000 < b.length) (hb2 : ¬ D.length < (putF b.length ++ b).length) (hr1 : ¬ 1000000000000000 < e + (putF b.length ++ b).length) (hr2 : ¬ m = 1000000000000000)
    (K Z : Nat) (hKZ : lstF (putF b.length ++ b).length (rmF D s e) (goodL p D s e f m) = (K, Z)) (hZ : ¬ rmF D s e + Z < (putF b.length ++ b).length) :
    errF p (wrF D e.toNat (putF b.length ++ b) (putF b.length ++ b).length) (s + Z) (e + (putF b.length ++ b).length) (f + K) (m + 1) = 0 ∧
    goodL p (wrF D e.toNat (putF b.length ++ b) (putF b.length ++ b).length) (s + Z) (e + (putF b.length ++ b).length) (f + K) (m + 1) = (goodL p D s e f m).drop K ++ [b] := by
  obtain ⟨a, n⟩ := err_nums h
  obtain ⟨g1, g2, g3⟩ := good_sz h
  have hrec := good_rec h
  have hle := lstF_le (putF b.length ++ b).length (rmF D s e) (goodL p D s e f m)
  have htk := lstF_take (putF b.length ++ b).length (rmF D s e) (goodL p D s e f m)
  rw [hKZ] at hle htk
  simp only at hle htk
  have hG := frameF_put (b := b) (by omega)
  have hGs := frameF_size hG
  generalize putF b.length ++ b = G at *
  obtain ⟨n0, n0', n1, n2, n3, n4, n5, n6, n7⟩ := n
  have hrm : (rmF D s e : Int) = D.length - (e - s) := by unfold rmF; omega
  generalize goodL p D s e f m = l at *
  generalize rmF D s e = r at *
  obtain ⟨S, rfl⟩ : ∃ q : Nat, s = q := ⟨s.toNat, by omega⟩
  obtain ⟨T, rfl⟩ : ∃ q : Nat, e = q := ⟨e.toNat, by omega⟩
  have lw := wrF_len D T G G.length
  have n' : numsOk (wrF D T G G.length).length (S + Z) (T + G.length) (f + K) (m + 1) := by
    unfold numsOk
    rw [lw]
    omega
  have hc := cont_put (D := D) (G := G) (S := S) (T := T) (Z := Z) (by omega) (by omega) (by omega) (by omega)
  have hr : recsF (wrF D T G G.length) (S + Z) (T + G.length) = some (l.drop K ++ [b]) := by
    have e1 : ((S : Int) + Z).toNat = S + Z := by omega
    have e2 : ((T : Int) + G.length).toNat = T + G.length := by omega
    unfold recsF at hrec ⊢
    simp only [Int.toNat_natCast] at hrec ⊢
    rw [e1, e2, hc]
    have hd := recF_drop K _ _ _ hrec hle.1
    rw [← htk] at hd
    have ha := recF_app hG _ _ _ hd
    have hf := recF_len _ _ _ ha
    -- as much fuel as is wanted
    exact recF_fuel ha
  simp only [Int.toNat_natCast]
  have herr : errF p (wrF D T G G.length) (S + Z) (T + G.length) (f + K) (m + 1) = 0 := by
    unfold errF
    rw [if_pos a, if_pos n', hr]
    simp only
    rw [if_pos (by rw [List.length_append, List.length_drop]; simp only [List.length_singleton]; omega)]
  refine ⟨herr, ?_⟩
  have := good_rec herr
  rw [hr] at this
  exact (Option.some.inj this).symm
end Go.Proofs.Ythoncigfbhinlaa
