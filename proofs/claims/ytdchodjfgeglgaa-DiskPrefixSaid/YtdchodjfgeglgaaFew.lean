/- 'few' says whether there are at most 40 operations with at most 100 bytes each. -/
import Derived.Test.YtdchodjfgeglgaaList
namespace Go.Proofs.Ytdchodjfgeglgaa
open Go.ChangeShapes Go.WideShapes Go.ChangeAt Go.RowKit
def fewB (L : List OpD) : Bool := decide (L.length ≤ 40) && L.all fun o => decide (o.ys.length ≤ 100)
theorem fewB_true {L : List OpD} (h : fewB L = true) : L.length ≤ 40 ∧ ∀ (i : Nat) (o : OpD), L[i]? = some o → o.ys.length ≤ 100 := by
  unfold fewB at h
  simp only [Bool.and_eq_true, decide_eq_true_eq, List.all_eq_true] at h
  exact ⟨h.1, fun i o hi => h.2 o (List.mem_of_getElem? hi)⟩
theorem fewB_mk {L : List OpD} (h : L.length ≤ 40) (h2 : ∀ (i : Nat) (o : OpD), L[i]? = some o → o.ys.length ≤ 100) : fewB L = true := by
  unfold fewB
  simp only [Bool.and_eq_true, decide_eq_true_eq, List.all_eq_true]
  refine ⟨h, fun o ho => ?_⟩
  obtain ⟨i, hi⟩ := List.getElem?_of_mem ho
  exact h2 i o hi
theorem fewB_long {L : List OpD} (h : 40 < L.length) : fewB L = false := by
  cases hb : fewB L
  · rfl
  · have := (fewB_true hb).1; omega
theorem fewB_big {L : List OpD} {i : Nat} {o : OpD} (hi : L[i]? = some o) (h : 100 < o.ys.length) : fewB L = false := by
  cases hb : fewB L
  · rfl
  · have := (fewB_true hb).2 i o hi; omega
theorem ret_bool {a b : Bool} (h : a = b) : Ending.returned (.bool a) = .returned (.bool b) := by rw [h]

set_option maxRecDepth 100000 in
set_option maxHeartbeats 1600000 in
theorem few_any (a : Option Addr) (cap : Nat) (L : List OpD) (w : World) (h : OpsIn w a cap L) :
    Calls Try.prog 9 #[.slice a L.length cap] w fun e w' => e = .returned (.bool (fewB L)) ∧ w = w' := by
  have hle := h.le
  have hmx := h.max
  by_cases hlen : 40 < L.length
  · rw [fewB_long hlen]
    go_enter Try.func9, Try.ntmps9
    go_wp2
    go_ret
    exact ⟨rfl, rfl⟩
  · have hlen' : L.length ≤ 40 := by omega
    clear hlen
    go_enter Try.func9, Try.ntmps9
    go_wp2
    go_loop [3] (fun i => ∃ k : Nat, k ≤ L.length ∧ i = .int .i64 k ∧ ∀ (j : Nat) (o : OpD), j < k → L[j]? = some o → o.ys.length ≤ 100) (fun i => L.length - (intOf i).toNat)
    case atStart => exact ⟨0, Nat.zero_le _, rfl, fun j o hj => absurd hj (by omega)⟩
    case round =>
      obtain ⟨k, hk, rfl, hall⟩ := hrel
      have HA := Lib.hid hall
      clear hall
      by_cases hlt : k < L.length
      · have hgo := List.getElem?_eq_getElem hlt
        generalize L[k] = o at hgo
        obtain ⟨b, off, rfl, hat⟩ := h.at_ k o hgo
        have HG := Lib.hid hgo
        have hc2 := hat.c2
        clear hgo hat
        by_cases hb : 100 < o.ys.length
        · have HF := Lib.hid (fewB_big HG.out hb)
          go_wp2
          go_ret
          exact ⟨ret_bool HF.out.symm, rfl⟩
        · have hb' : o.ys.length ≤ 100 := by omega
          clear hb
          go_wp2
          go_round
          case rel => exact ⟨k + 1, by omega, by go_num, fun j o' hj hj' => by
            by_cases e : j = k
            · subst e; have := HG.out.symm.trans hj'; injection this with this; subst this; exact hb'
            · exact HA.out j o' (by omega) hj'⟩
          case measure => simp [intOf]; omega
      · have HF := Lib.hid (fewB_mk hlen' (fun i o hi => HA.out i o (by have := (List.getElem?_eq_some_iff.1 hi).1; omega) hi))
        go_wp2
        go_ret
        exact ⟨ret_bool HF.out.symm, rfl⟩
end Go.Proofs.Ytdchodjfgeglgaa
