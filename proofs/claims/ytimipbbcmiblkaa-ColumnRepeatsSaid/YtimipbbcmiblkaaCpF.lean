/- column: what Encode writes is read back. -/
import Derived.Test.YtimipbbcmiblkaaCpE
namespace Go.Proofs.Ytimipbbcmiblkaa
open Go Go.RowKit
set_option linter.unusedVariables false
set_option linter.unusedSimpArgs false
set_option maxHeartbeats 4000000

theorem posV_some : ∀ (W X : List Val) (v : Val) (i j : Nat), posV W v i = some j → posV (W ++ X) v i = some j
  | [], X, v, i, j, h => by simp [posV] at h
  | w :: r, X, v, i, j, h => by
    unfold posV at h
    rw [List.cons_append, posV]
    split at h
    · rename_i hc; rw [if_pos hc]; exact h
    · rename_i hc; rw [if_neg hc]; exact posV_some r X v (i + 1) j h
theorem posV_none : ∀ (W : List Val) (v : Val) (i : Nat), posV W v i = none → posV (W ++ [v]) v i = some (i + W.length)
  | [], v, i, _ => by simp [posV]
  | w :: r, v, i, h => by
    unfold posV at h
    rw [List.cons_append, posV]
    split at h
    · cases h
    · rename_i hc
      rw [if_neg hc, posV_none r v (i + 1) h]
      simp; omega
theorem posV_get : ∀ (W : List Val) (v : Val) (i j : Nat), posV W v i = some j → i ≤ j ∧ W[j - i]? = some v
  | [], v, i, j, h => by simp [posV] at h
  | w :: r, v, i, j, h => by
    unfold posV at h
    split at h
    · rename_i hc
      cases h
      rw [Nat.sub_self, hc]
      exact ⟨Nat.le_refl _, rfl⟩
    · obtain ⟨h1, h2⟩ := posV_get r v (i + 1) j h
      refine ⟨by omega, ?_⟩
      rw [show j - i = (j - (i + 1)) + 1 by omega]
      exact h2
def tlW (W : List Val) (l : List Val) : List Nat := l.flatMap fun v => putI (((posV W v 0).getD 0 : Nat) : Int)
theorem dicS_snoc (l : List Val) (v : Val) : dicS (l ++ [v]) = dstp (dicS l) v := by simp [dicS]
theorem tlW_congr {W W' : List Val} : ∀ {l : List Val}, (∀ v ∈ l, posV W' v 0 = posV W v 0) → tlW W' l = tlW W l
  | [], _ => rfl
  | v :: l, h => by
    have h1 := h v (by simp)
    have h2 := tlW_congr (l := l) (fun w hw => h w (by simp [hw]))
    simp only [tlW, List.flatMap_cons] at h2 ⊢
    rw [h1, h2]
theorem tlW_snoc (W l : List Val) (v : Val) : tlW W (l ++ [v]) = tlW W l ++ putI (((posV W v 0).getD 0 : Nat) : Int) := by simp [tlW]
theorem dic_all (r : List Val) : (dicS r.reverse).2 = tlW (dicS r.reverse).1 r.reverse ∧ ∀ v ∈ r, ∃ i, posV (dicS r.reverse).1 v 0 = some i := by
  induction r with
  | nil => exact ⟨rfl, by simp⟩
  | cons v r ih =>
    obtain ⟨h1, h2⟩ := ih
    rw [List.reverse_cons, dicS_snoc]
    generalize hW : dicS r.reverse = q at *
    obtain ⟨W, T⟩ := q
    simp only at h1 h2
    cases hp : posV W v 0 with
    | some i =>
      have ed : dstp (W, T) v = (W, T ++ putI i) := by unfold dstp; simp only [hp]
      rw [ed]
      refine ⟨?_, fun w hw => ?_⟩
      · simp only
        rw [tlW_snoc, ← h1, hp]
        rfl
      · rcases List.mem_cons.1 hw with rfl | hw
        · exact ⟨i, hp⟩
        · exact h2 w hw
    | none =>
      have ed : dstp (W, T) v = (W ++ [v], T ++ putI W.length) := by unfold dstp; simp only [hp]
      rw [ed]
      have hn := posV_none W v 0 hp
      rw [Nat.zero_add] at hn
      have hc : ∀ w ∈ r.reverse, posV (W ++ [v]) w 0 = posV W w 0 := fun w hw => by
        obtain ⟨i, hi⟩ := h2 w (by simpa using hw)
        rw [hi, posV_some W [v] w 0 i hi]
      refine ⟨?_, fun w hw => ?_⟩
      · simp only
        rw [tlW_snoc, tlW_congr hc, ← h1, hn]
        rfl
      · rcases List.mem_cons.1 hw with rfl | hw
        · exact ⟨W.length, hn⟩
        · obtain ⟨i, hi⟩ := h2 w hw
          exact ⟨i, posV_some W [v] w 0 i hi⟩
theorem dic_ok (l : List Val) : (dicS l).2 = tlW (dicS l).1 l ∧ ∀ v ∈ l, ∃ i, posV (dicS l).1 v 0 = some i := by
  have h := dic_all l.reverse
  rw [List.reverse_reverse] at h
  exact ⟨h.1, fun v hv => h.2 v (by simpa using hv)⟩
theorem dcD_put (n : Nat) (W : List Val) (hW : W.length ≤ 20000) : ∀ (l o : List Val) (j : Nat), (∀ v ∈ l, ∃ i, posV W v 0 = some i) → o.length + l.length = n → l.length ≤ j → dcD n W j (o, tlW W l, false) = (o ++ l, [], false)
  | [], o, j, _, hn, _ => by
    have ht : tlW W [] = [] := rfl
    rw [ht, List.append_nil]
    cases j with
    | zero => rfl
    | succ j => rw [dcD, if_neg (by simp at hn; simp [hn])]
  | v :: l, o, j, h, hn, hj => by
    obtain ⟨j, rfl⟩ : ∃ k, j = k + 1 := ⟨j - 1, by simp at hj; omega⟩
    obtain ⟨i, hi⟩ := h v (by simp)
    have hlt := posV_lt W v 0 i hi
    obtain ⟨_, hg⟩ := posV_get W v 0 i hi
    rw [Nat.sub_zero] at hg
    have ht : tlW W (v :: l) = putI (i : Int) ++ tlW W l := by simp [tlW, hi]
    have hd := dec_put (n := (i : Int)) (by omega) (by omega) (tlW W l)
    have hdr := drop_put (i : Int) (tlW W l)
    have hnb : ¬ badD W (i : Int) := by unfold badD; omega
    have hgd : W.getD i (0, 0, []) = v := by rw [List.getD_eq_getElem?_getD, hg]; rfl
    have hc : o.length < n := by simp at hn; omega
    rw [dcD, ht]
    simp only [hc, hd, hdr, hnb, if_false, if_true, and_self, Int.toNat_natCast, hgd]
    have := dcD_put n W hW l (o ++ [v]) j (fun w hw => h w (by simp [hw])) (by simp at hn ⊢; omega) (by simp at hj; omega)
    simpa using this
theorem dicS_I34 {kk : Int} (l : List Val) (h : ∀ v ∈ l, valV kk v = 0 ∧ i64V v) (hl : l.length ≤ 20000) : ∀ k, k ≤ l.length → (dicS (l.take k)).1.length ≤ k ∧ ∀ w ∈ (dicS (l.take k)).1, w ∈ l
  | 0, _ => by simp [dicS]
  | k + 1, hk => by
    obtain ⟨h1, h2⟩ := dicS_I34 l h hl k (by omega)
    have hu := List.getElem?_eq_getElem (show k < l.length by omega)
    generalize l[k] = v at *
    rw [List.take_add_one, hu]
    simp only [Option.toList_some]
    rw [dicS_snoc]
    generalize dicS (l.take k) = q at *
    obtain ⟨W, T⟩ := q
    simp only at h1 h2
    cases hp : posV W v 0 with
    | some i =>
      have ed : dstp (W, T) v = (W, T ++ putI i) := by unfold dstp; simp only [hp]
      rw [ed]
      exact ⟨by simp only; omega, h2⟩
    | none =>
      have ed : dstp (W, T) v = (W ++ [v], T ++ putI W.length) := by unfold dstp; simp only [hp]
      rw [ed]
      refine ⟨by simp; omega, fun w hw => ?_⟩
      rcases List.mem_append.1 hw with hw | hw
      · exact h2 w hw
      · rw [List.mem_singleton.1 hw]; exact List.mem_of_getElem? hu
theorem diD_put {kk : Int} (l : List Val) (h : ∀ v ∈ l, valV kk v = 0 ∧ i64V v) (hl : l.length ≤ 20000) : diD l.length (putI (dicS l).1.length ++ (flB (dicS l).1 ++ (dicS l).2)) false = (l, [], false) := by
  obtain ⟨h1, h2⟩ := dic_ok l
  obtain ⟨h3, h4⟩ := dicS_I34 l h hl l.length (Nat.le_refl _)
  rw [List.take_length] at h3 h4
  rw [h1]
  generalize (dicS l).1 = W at *
  have hd := dec_put (n := (W.length : Int)) (by omega) (by omega) (flB W ++ tlW W l)
  have hdr := drop_put (W.length : Int) (flB W ++ tlW W l)
  have hp := plD_put (kk := kk) W.length (tlW W l) W [] W.length (fun v hv => h v (h4 v hv)) (by simp) (Nat.le_refl _)
  have hw : dwD l.length (putI (W.length : Int) ++ (flB W ++ tlW W l)) false = (W, tlW W l, false) := by
    unfold dwD
    rw [hd, hdr]
    simp only [Int.toNat_natCast]
    rw [if_neg (by omega)]
    simpa using hp
  unfold diD
  rw [hw]
  have := dcD_put l.length W (by omega) l [] l.length h2 (by simp) (Nat.le_refl _)
  simpa using this
theorem sel_mem : ∀ (L : List (Option (List Nat))) (b : List Nat), L.foldl sel b = b ∨ some (L.foldl sel b) ∈ L
  | [], b => .inl rfl
  | o :: L, b => by
    simp only [List.foldl_cons]
    rcases sel_mem L (sel b o) with h | h
    · rw [h]
      unfold sel
      cases o with
      | none => exact .inl rfl
      | some D =>
        simp only
        split
        · right; simp
        · exact .inl rfl
    · right; simp [h]
/-- what Encode writes is read back -/
theorem decS_short {k : Int} (l : List Val) (h : ∀ v ∈ l, valV k v = 0 ∧ i64V v) (hl : l.length ≤ 20000) : decS k l.length (short k l) = (l, true) := by
  have hm := sel_mem (cods k l) (0 :: flB l)
  unfold short
  rcases hm with hm | hm
  · rw [hm]
    have := plD_put (kk := k) l.length [] l [] l.length h (by simp) (Nat.le_refl _)
    rw [List.append_nil, List.nil_append] at this
    simp [decS, this]
  · generalize List.foldl sel (0 :: flB l) (cods k l) = D at *
    simp only [cods, List.mem_cons, List.not_mem_nil, or_false, Option.some.injEq] at hm
    rcases hm with rfl | hm | rfl
    · have := rnD_put (kk := k) l h hl l.length 0 l.length (by omega) (by omega) (Nat.zero_le _)
      rw [List.take_zero] at this
      simp [decS, runB, this]
    · unfold difR at hm
      split at hm
      · cases hm
      · rename_i hk3
        cases hd : dif 0 l with
        | none => rw [hd] at hm; cases hm
        | some A =>
          rw [hd] at hm
          simp only [Option.map_some, Option.some.injEq] at hm
          subst hm
          have := dfD_put hk3 l.length l [] l.length 0 A h hd (by simp) (Nat.le_refl _)
          rw [List.nil_append] at this
          simp [decS, this]
    · have := diD_put (kk := k) l h hl
      simp [decS, dicB, this]
end Go.Proofs.Ytimipbbcmiblkaa
