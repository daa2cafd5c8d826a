/- heapdump: a further root or reference that is no object's id. -/
import Derived.Test.YtdbfbaiopmpklaaDoorHdG
namespace Go.Proofs.YtdbfbaiopmpklaaDoor
open Go Go.RowKit
set_option linter.unusedVariables false
set_option linter.unusedSimpArgs false
set_option maxHeartbeats 4000000

theorem firstF_at {α : Type} {f : Nat → α → Int} : ∀ {L : List α} {k i : Nat} {a : α}, L[i]? = some a → (∀ j b, j < i → L[j]? = some b → f (k + j) b = 0) → f (k + i) a ≠ 0 → firstF f L k = f (k + i) a
  | [], k, i, a, h, _, _ => by simp at h
  | b :: L, k, 0, a, h, _, hn => by
    simp only [List.getElem?_cons_zero, Option.some.injEq] at h
    subst h
    rw [Nat.add_zero] at hn ⊢
    unfold firstF
    rw [if_neg hn]
  | b :: L, k, i + 1, a, h, h0, hn => by
    have hb := h0 0 b (by omega) rfl
    rw [Nat.add_zero] at hb
    unfold firstF
    rw [if_pos hb, firstF_at (L := L) (k := k + 1) (i := i) (a := a) (by simpa using h) (fun j c hj hc => by
      have := h0 (j + 1) c (by omega) (by simpa using hc)
      rwa [show k + 1 + j = k + (j + 1) by omega]) (by rwa [show k + 1 + i = k + (i + 1) by omega])]
    rw [show k + 1 + i = k + (i + 1) by omega]
theorem prevLe_app {R S : List Int} {k : Nat} (z : Int) (hk : k ≤ R.length) : prevLe (R ++ S) k z = prevLe R k z := by
  cases k with
  | zero => rfl
  | succ j =>
    have : (R ++ S)[j]? = R[j]? := List.getElem?_append_left (by omega)
    simp only [prevLe, this]
/-- references behind which one is no id -/
theorem refE_miss {ids R : List Int} {id : Int} (h : refE ids R = 0) (hid : ¬ id ∈ ids) : refE ids (R ++ [id]) = 5 := by
  have h0 := refE_zero h
  have hx : refF ids (R ++ [id]) (0 + R.length) id = 5 := by unfold refF; rw [if_neg hid]
  unfold refE
  rw [firstF_at (i := R.length) (a := id) (by simp) (fun j b hj hb => by
    rw [List.getElem?_append_left hj] at hb
    obtain ⟨g1, g2⟩ := h0 j b hb
    unfold refF
    rw [Nat.zero_add, if_pos g1, prevLe_app b (by omega), g2]; rfl) (by rw [hx]; decide), hx]
theorem idsO_set (l : List Ob) (i : Nat) (o : Ob) (x : Ob) (h : l[i]? = some o) (hx : x.1 = o.1) : idsO (l.set i x) = idsO l := by
  unfold idsO
  rw [List.map_set]
  apply List.ext_getElem?
  intro j
  rw [List.getElem?_set]
  split
  · rename_i hij
    subst hij
    simp only [List.length_map, List.getElem?_map, h, Option.map_some]
    split
    · rw [hx]
    · rename_i hn; exact absurd ((List.getElem?_eq_some_iff.1 h).1) (by simpa using hn)
  · rfl
theorem objE_set {l : List Ob} {i : Nat} {o : Ob} {x : Ob} (h : l[i]? = some o) (hx : x.1 = o.1 ∧ x.2.1 = o.2.1 ∧ x.2.2.1 = o.2.2.1) (hz : objE l = 0) : objE (l.set i x) = 0 := by
  unfold objE
  rw [firstF_zero]
  intro j b hb
  have h0 := (firstF_zero l 0).1 hz
  rw [Nat.zero_add]
  unfold objF
  rw [idsO_set l i o x h hx.1]
  rw [List.getElem?_set] at hb
  split at hb
  · rename_i hij
    subst hij
    split at hb
    · cases hb
      have := h0 i o h
      rw [Nat.zero_add] at this
      unfold objF badO at this
      unfold badO
      rw [hx.1, hx.2.1, hx.2.2]
      exact this
    · cases hb
  · have := h0 j b hb
    rw [Nat.zero_add] at this
    exact this
theorem rfsE_set {l : List Ob} {i : Nat} {o : Ob} {id : Int} (h : l[i]? = some o) (hz : rfsE l = 0) (hid : ¬ id ∈ idsO l) : rfsE (l.set i (o.1, o.2.1, o.2.2.1, o.2.2.2 ++ [id])) = 5 := by
  have h0 := (firstF_zero l 0).1 hz
  have hi := (List.getElem?_eq_some_iff.1 h).1
  have hm := refE_miss (h0 i o h) hid
  have e := idsO_set l i o (o.1, o.2.1, o.2.2.1, o.2.2.2 ++ [id]) h rfl
  unfold rfsE
  simp only [e]
  rw [firstF_at (i := i) (a := (o.1, o.2.1, o.2.2.1, o.2.2.2 ++ [id])) (by rw [List.getElem?_set]; simp [hi]) (fun j b hj hb => by
    rw [List.getElem?_set, if_neg (by omega)] at hb
    exact h0 j b hb) (by simp only; rw [hm]; decide)]
  exact hm
theorem sum_ok : ∀ {l : List Ob} {n : Int}, 0 ≤ n → (∀ o ∈ l, o.2.2.2.length ≤ 61) → n + 61 * (l.length : Int) ≤ 20000 → sumOk l n = true
  | [], n, _, _, _ => rfl
  | o :: l, n, h0, h1, h2 => by
    have ho := h1 o (by simp)
    simp only [List.length_cons] at h2
    have w : IntKind.i64.wrap (n + (o.2.2.2.length : Int)) = n + (o.2.2.2.length : Int) := wrap_i64 _ (by omega) (by omega)
    unfold sumOk
    rw [w, sum_ok (l := l) (n := n + (o.2.2.2.length : Int)) (by omega) (fun x hx => h1 x (by simp [hx])) (by omega)]
    simp only [Bool.and_true, decide_eq_true_eq]
    omega
theorem chk_root {l : List Ob} {r : List Int} {id : Int} (h : chkE l r = 0) (hid : ¬ id ∈ idsO l) : chkE l (r ++ [id]) = 5 := by
  obtain ⟨z1, z2, z3⟩ := chk_zero h
  unfold chkE
  rw [if_neg (by simp [z1]), if_neg (by simp [z2])]
  exact refE_miss z3 hid
theorem chk_ref {l : List Ob} {r : List Int} {id : Int} {i : Nat} {o : Ob} (h : chkE l r = 0) (hid : ¬ id ∈ idsO l) (ho : l[i]? = some o) : chkE (l.set i (o.1, o.2.1, o.2.2.1, o.2.2.2 ++ [id])) r = 5 := by
  obtain ⟨z1, z2, z3⟩ := chk_zero h
  have e := rfsE_set ho z2 hid
  unfold chkE
  have e0 := objE_set (x := (o.1, o.2.1, o.2.2.1, o.2.2.2 ++ [id])) ho ⟨rfl, rfl, rfl⟩ z1
  rw [if_neg (by simp [e0]), if_pos (by rw [e]; decide)]
  exact e
end Go.Proofs.YtdbfbaiopmpklaaDoor
