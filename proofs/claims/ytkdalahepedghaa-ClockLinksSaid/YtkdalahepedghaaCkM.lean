/- What snapshots connect with the reference. -/
import Derived.Test.YtkdalahepedghaaCkG
namespace Go.Proofs.Ytkdalahepedghaa
open Go Go.RowKit
set_option linter.unusedVariables false

inductive Rch (l : List Sn) : Int → Prop
  | base : Rch l 0
  | ab {s : Sn} : s ∈ l → Rch l s.a → Rch l s.b
  | ba {s : Sn} : s ∈ l → Rch l s.b → Rch l s.a
def Clo (l : List Sn) (M : List Int) : Prop := ∀ s, s ∈ l → (s.a ∈ M ↔ s.b ∈ M)
theorem Rch.closed {l : List Sn} {M : List Int} (h0 : 0 ∈ M) (hc : Clo l M) {z : Int} (h : Rch l z) : z ∈ M := by
  induction h with
  | base => exact h0
  | ab hs _ ih => exact (hc _ hs).1 ih
  | ba hs _ ih => exact (hc _ hs).2 ih
theorem Rch.mono {l l' : List Sn} (h : ∀ s, s ∈ l → s ∈ l') {z : Int} (r : Rch l z) : Rch l' z := by
  induction r with
  | base => exact .base
  | ab hs _ ih => exact .ab (h _ hs) ih
  | ba hs _ ih => exact .ba (h _ hs) ih
theorem nodup_len : ∀ {A V : List Int}, A.Nodup → (∀ z, z ∈ A → z ∈ V) → A.length ≤ V.length
  | [], V, _, _ => by simp
  | a :: A, V, h, hs => by
    have h1 := List.nodup_cons.1 h
    have ha := hs a (by simp)
    have := nodup_len (V := V.erase a) h1.2 (fun z hz => (List.mem_erase_of_ne (fun e => h1.1 (by rw [← e]; exact hz))).2 (hs z (by simp [hz])))
    rw [List.length_erase_of_mem ha] at this
    have := List.length_pos_of_mem ha
    simp only [List.length_cons]
    omega

def addK (M : List Int) (z : Int) : List Int := if z ∈ M then M else M ++ [z]
theorem addK_mem {M : List Int} {z x : Int} : x ∈ addK M z ↔ x ∈ M ∨ x = z := by
  unfold addK
  split
  · rename_i h
    constructor
    · exact .inl
    · rintro (h1 | rfl) <;> assumption
  · simp
theorem addK_nodup {M : List Int} {z : Int} (h : M.Nodup) : (addK M z).Nodup := by
  unfold addK
  split
  · exact h
  · rename_i h1
    rw [List.nodup_append]
    refine ⟨h, by simp, ?_⟩
    intro a ha b hb e
    simp at hb
    subst hb
    subst e
    exact h1 ha
def stp (M : List Int) (s : Sn) : List Int := if s.a ∈ M ∨ s.b ∈ M then addK (addK M s.a) s.b else M
def rnd (m : List Sn) (M : List Int) : List Int := m.foldl stp M
theorem stp_sub {M : List Int} {s : Sn} {x : Int} (h : x ∈ M) : x ∈ stp M s := by
  unfold stp
  split
  · exact addK_mem.2 (.inl (addK_mem.2 (.inl h)))
  · exact h
theorem stp_nodup {M : List Int} {s : Sn} (h : M.Nodup) : (stp M s).Nodup := by
  unfold stp
  split
  · exact addK_nodup (addK_nodup h)
  · exact h
theorem stp_all {P : Int → Prop} {M : List Int} {s : Sn} (h : ∀ x, x ∈ M → P x) (h1 : P s.a → P s.b) (h2 : P s.b → P s.a) : ∀ x, x ∈ stp M s → P x := by
  intro x hx
  unfold stp at hx
  split at hx
  · rename_i hc
    have ha : P s.a := by
      rcases hc with hc | hc
      · exact h _ hc
      · exact h2 (h _ hc)
    rcases addK_mem.1 hx with hx | rfl
    · rcases addK_mem.1 hx with hx | rfl
      · exact h x hx
      · exact ha
    · exact h1 ha
  · exact h x hx
theorem rnd_sub {m : List Sn} : ∀ {M : List Int} {x : Int}, x ∈ M → x ∈ rnd m M := by
  induction m with
  | nil => intro M x h; exact h
  | cons s m ih => intro M x h; exact ih (stp_sub h)
theorem rnd_nodup {m : List Sn} : ∀ {M : List Int}, M.Nodup → (rnd m M).Nodup := by
  induction m with
  | nil => intro M h; exact h
  | cons s m ih => intro M h; exact ih (stp_nodup h)
theorem rnd_all {P : Int → Prop} {m : List Sn} : ∀ {M : List Int}, (∀ x, x ∈ M → P x) → (∀ s, s ∈ m → (P s.a → P s.b) ∧ (P s.b → P s.a)) → ∀ x, x ∈ rnd m M → P x := by
  induction m with
  | nil => intro M h _; exact h
  | cons s m ih => intro M h hs; exact ih (stp_all h (hs s (by simp)).1 (hs s (by simp)).2) (fun t ht => hs t (by simp [ht]))
theorem rnd_has {m : List Sn} {s : Sn} : ∀ {M : List Int}, s ∈ m → (s.a ∈ M ∨ s.b ∈ M) → s.a ∈ rnd m M ∧ s.b ∈ rnd m M := by
  induction m with
  | nil => intro M h; simp at h
  | cons t m ih =>
    intro M h hc
    rcases List.mem_cons.1 h with rfl | h
    · have e : stp M s = addK (addK M s.a) s.b := by unfold stp; rw [if_pos hc]
      have h1 : s.a ∈ stp M s := by rw [e]; exact addK_mem.2 (.inl (addK_mem.2 (.inr rfl)))
      have h2 : s.b ∈ stp M s := by rw [e]; exact addK_mem.2 (.inr rfl)
      exact ⟨rnd_sub (m := m) (M := stp M s) h1, rnd_sub (m := m) (M := stp M s) h2⟩
    · exact ih h (hc.elim (fun h => .inl (stp_sub h)) (fun h => .inr (stp_sub h)))
theorem rnd_same {m : List Sn} {M : List Int} (h : Clo m M) : rnd m M = M := by
  induction m with
  | nil => rfl
  | cons s m ih =>
    have e : stp M s = M := by
      unfold stp
      split
      · rename_i hc
        have hs := h s (by simp)
        have ha : s.a ∈ M := hc.elim id hs.2
        have hb : s.b ∈ M := hs.1 ha
        have e1 : addK M s.a = M := by unfold addK; rw [if_pos ha]
        rw [e1]; unfold addK; rw [if_pos hb]
      · rfl
    show rnd m (stp M s) = M
    rw [e]
    exact ih (fun t ht => h t (by simp [ht]))
theorem rnd_grow {m : List Sn} {M : List Int} (hn : M.Nodup) (h : ¬ Clo m M) : M.length < (rnd m M).length := by
  have : ∃ s, s ∈ m ∧ ¬ (s.a ∈ M ↔ s.b ∈ M) := by
    apply Classical.byContradiction
    intro hh
    exact h fun s hs => Classical.byContradiction fun hx => hh ⟨s, hs, hx⟩
  obtain ⟨s, hs, hx⟩ := this
  have : ∃ z, ¬ z ∈ M ∧ z ∈ rnd m M := by
    by_cases ha : s.a ∈ M
    · have hb : ¬ s.b ∈ M := fun hb => hx ⟨fun _ => hb, fun _ => ha⟩
      exact ⟨s.b, hb, (rnd_has hs (.inl ha)).2⟩
    · have hb : s.b ∈ M := Classical.byContradiction fun hb => hx ⟨fun h => absurd h ha, fun h => absurd h hb⟩
      exact ⟨s.a, ha, (rnd_has hs (.inr hb)).1⟩
  obtain ⟨z, h1, h2⟩ := this
  have := nodup_len (A := z :: M) (V := rnd m M) (List.nodup_cons.2 ⟨h1, hn⟩) (fun x hx => by
    rcases List.mem_cons.1 hx with rfl | hx
    · exact h2
    · exact rnd_sub hx)
  simp only [List.length_cons] at this
  omega
/-- a round further: as many rounds as there may be numbers close what is reached -/
def RInv (l m : List Sn) (V : List Int) (k : Nat) (M : List Int) : Prop := M.Nodup ∧ 0 ∈ M ∧ (∀ z, z ∈ M → Rch l z) ∧ (∀ z, z ∈ M → z ∈ V) ∧ (Clo m M ∨ k + 1 ≤ M.length)
theorem RInv.zero {l m : List Sn} {V : List Int} (h : 0 ∈ V) : RInv l m V 0 [0] :=
  ⟨by simp, by simp, by intro z hz; simp at hz; subst hz; exact .base, by intro z hz; simp at hz; subst hz; exact h, .inr (by simp)⟩
theorem RInv.next {l m : List Sn} {V : List Int} (hm : ∀ s, s ∈ m → s ∈ l) (hV : ∀ s, s ∈ m → s.a ∈ V ∧ s.b ∈ V) {k : Nat} {M : List Int} (h : RInv l m V k M) : RInv l m V (k + 1) (rnd m M) := by
  obtain ⟨h1, h2, h3, h4, h5⟩ := h
  refine ⟨rnd_nodup h1, rnd_sub h2, rnd_all h3 (fun s hs => ⟨.ab (hm s hs), .ba (hm s hs)⟩), rnd_all h4 (fun s hs => ⟨fun _ => (hV s hs).2, fun _ => (hV s hs).1⟩), ?_⟩
  by_cases hc : Clo m M
  · left; rw [rnd_same hc]; exact hc
  · right
    have := rnd_grow h1 hc
    have : k + 1 ≤ M.length := h5.resolve_left hc
    omega
theorem RInv.done {l m : List Sn} {V : List Int} (hl : ∀ s, s ∈ l → s ∈ m) {k : Nat} (hk : V.length ≤ k) {M : List Int} (h : RInv l m V k M) (z : Int) : z ∈ M ↔ Rch l z := by
  obtain ⟨h1, h2, h3, h4, h5⟩ := h
  have hc : Clo m M := by
    rcases h5 with h5 | h5
    · exact h5
    · have := nodup_len h1 h4
      omega
  exact ⟨h3 z, Rch.closed h2 (fun s hs => hc s (hl s hs))⟩

theorem fnd_mem {z : Int} {d : List Dm} : 0 ≤ fnd z d ↔ z ∈ d.map (·.1) := by
  unfold fnd
  cases hf : d.findIdx? (isI z) with
  | none =>
    constructor
    · intro h; simp at h
    · intro h
      obtain ⟨a, ha, rfl⟩ := List.mem_map.1 h
      have := List.findIdx?_eq_none_iff.1 hf a ha
      simp [isI] at this
  | some k =>
    obtain ⟨hk, hp, _⟩ := List.findIdx?_eq_some_iff_getElem.1 hf
    constructor
    · intro _
      have : d[k].1 = z := by simpa [isI] using hp
      exact List.mem_map.2 ⟨d[k], List.getElem_mem hk, this⟩
    · intro _; simp
theorem ck_ids {d : List Dm} {l : List Sn} (h : ckF d l = 0) : d.length ≤ 8 ∧ l.length ≤ 200 ∧ 0 ∈ d.map (·.1) ∧ ∀ s, s ∈ l → s.a ∈ d.map (·.1) ∧ s.b ∈ d.map (·.1) := by
  cases d with
  | nil => simp [ckF] at h
  | cons f r =>
    rw [ckF_cons] at h
    by_cases g1 : 8 < (f :: r).length
    · rw [if_pos g1] at h; omega
    rw [if_neg g1] at h
    by_cases g2 : 200 < l.length
    · rw [if_pos g2] at h; omega
    rw [if_neg g2] at h
    by_cases g3 : f.1 ≠ 0
    · rw [if_pos g3] at h; omega
    rw [if_neg g3] at h
    by_cases g4 : f.2 ≠ 0
    · rw [if_pos g4] at h; omega
    rw [if_neg g4] at h
    split at h
    · rename_i hh; exact absurd h hh
    · refine ⟨by omega, by omega, ?_, ?_⟩
      · have : f.1 = 0 := Decidable.byContradiction g3
        simp [this]
      · intro s hs
        obtain ⟨i, hi, rfl⟩ := List.getElem_of_mem hs
        have := (firstF_zero l 0).1 h i _ (List.getElem?_eq_getElem hi)
        constructor
        · refine fnd_mem.1 (Decidable.byContradiction fun hn => ?_)
          unfold sF at this
          rw [if_pos (by omega)] at this
          omega
        · refine fnd_mem.1 (Decidable.byContradiction fun hn => ?_)
          unfold sF at this
          split at this
          · omega
          · rw [if_pos (by omega)] at this
            omega
end Go.Proofs.Ytkdalahepedghaa
