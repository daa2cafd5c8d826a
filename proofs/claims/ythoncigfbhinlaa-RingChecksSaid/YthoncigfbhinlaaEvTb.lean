/- A function by a table of the calls that it makes. -/
import Derived.Test.YthoncigfbhinlaaEvLp
namespace Go.Proofs.Ythoncigfbhinlaa
open Go Go.RowKit
set_option linter.unusedVariables false
set_option linter.unusedSectionVars false

def all2 {α : Type} (f : α → α → Bool) : List α → List α → Bool
  | [], [] => true
  | a :: r, b :: s => f a b && all2 f r s
  | _, _ => false
def kEq : IntKind → IntKind → Bool := fun a b => decide (a = b)
def beqV : Nat → PV → PV → Bool
  | 0, _, _ => false
  | n + 1, .int k x, .int k' y => kEq k k' && decide (x = y)
  | n + 1, .bool x, .bool y => decide (x = y)
  | n + 1, .nilS, .nilS => true
  | n + 1, .str x, .str y => decide (x = y)
  | n + 1, .agg x, .agg y => all2 (beqV n) x y
  | n + 1, .tup x, .tup y => all2 (beqV n) x y
  | n + 1, .sl a e x, .sl b e' y => decide (a = b) && (Nat.beq e e' && all2 (all2 (beqV n)) x y)
  | _, _, _ => false
theorem all2_eq {α : Type} {f : α → α → Bool} (h : ∀ a b, f a b = true → a = b) : ∀ {x y : List α}, all2 f x y = true → x = y
  | [], [], _ => rfl
  | [], b :: s, e => by simp [all2] at e
  | a :: r, [], e => by simp [all2] at e
  | a :: r, b :: s, e => by
    simp only [all2, Bool.and_eq_true] at e
    rw [h a b e.1, all2_eq h e.2]
theorem beqV_eq : ∀ (n : Nat) (a b : PV), beqV n a b = true → a = b
  | 0, a, b, h => by simp [beqV] at h
  | n + 1, a, b, h => by
    have ih := beqV_eq n
    cases a <;> cases b <;> simp [beqV, kEq] at h
    all_goals first
      | rfl
      | (rw [h.1, h.2]; done)
      | (rw [h]; done)
      | (rw [all2_eq ih h]; done)
      | (obtain ⟨h1, h2, h3⟩ := h; rw [h1, h2, all2_eq (fun _ _ q => all2_eq ih q) h3])
def lookT : List (Nat × List PV × PV) → Nat → List PV → Option PV
  | [], _, _ => none
  | (g, a, r) :: t, f, x => if Nat.beq g f && all2 (beqV 20) a x then some r else lookT t f x
theorem lookT_mem : ∀ {T : List (Nat × List PV × PV)} {f : Nat} {x : List PV} {r : PV}, lookT T f x = some r → (f, x, r) ∈ T
  | [], f, x, r, h => by simp [lookT] at h
  | (g, a, r0) :: t, f, x, r, h => by
    simp only [lookT] at h
    split at h
    · rename_i hc
      simp only [Bool.and_eq_true] at hc
      cases h
      rw [← Nat.eq_of_beq_eq_true hc.1, ← all2_eq (beqV_eq 20) hc.2]
      simp
    · exact List.mem_cons_of_mem _ (lookT_mem h)
def tabC (T : List (Nat × List PV × PV)) : Cl := ⟨lookT T, fun _ _ _ => none⟩
theorem evE_tab {D : Nat → Option AFn} {f : Nat} {fc : AFn} {args : List PV} {r : PV} (T : List (Nat × List PV × PV)) (hT : ∀ e ∈ T, evE D e.1 e.2.1 = some e.2.2) (k : Nat) (hD : D f = some fc) (hl : args.length = fc.np)
    (h : endP fc.res (evCode (tabC T) k fc.code ⟨args ++ List.replicate (fc.nt - fc.np) .top, []⟩) = some r) (hx : fc.ext = none := by rfl) : evE D f args = some r := by
  have L : Lim (fun _ => evC D) (tabC T) := ⟨fun _ _ _ _ _ _ h => h, fun g a r h => ⟨0, hT _ (lookT_mem h)⟩, fun _ _ _ _ _ _ _ h => h, fun g a bl r h => by cases h⟩
  cases ho : evCode (tabC T) k fc.code ⟨args ++ List.replicate (fc.nt - fc.np) .top, []⟩ with
  | none => rw [ho] at h; simp [endP] at h
  | some out =>
    obtain ⟨N, hN⟩ := evCode_lim L ho
    refine evE_intro k hD hl ?_ hx
    rw [hN N k (Nat.le_refl _) (Nat.le_refl _), ← ho]
    exact h
end Go.Proofs.Ythoncigfbhinlaa
