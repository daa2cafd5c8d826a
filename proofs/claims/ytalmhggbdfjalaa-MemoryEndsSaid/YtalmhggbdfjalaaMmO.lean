/- memory.Check accepts what memory.Of makes. -/
import Derived.Test.YtalmhggbdfjalaaMmL
import Derived.Test.YtalmhggbdfjalaaMmN
namespace Go.Proofs.Ytalmhggbdfjalaa
open Go Go.RowKit
set_option linter.unusedVariables false
set_option linter.unusedSectionVars false
set_option linter.unusedSimpArgs false
set_option maxHeartbeats 4000000

/-- where a block comes from -/
structure Org (l : List Td) (e : Int) (b : Bk) : Prop where
  beg : ∃ (i : Nat) (t : Td), l[i]? = some t ∧ t.kd = 11 ∧ b.i = t.n ∧ b.t = t.th ∧ b.s = t.m ∧ b.f = tm t ∧ b.st = t.st
  fin : (b.lv = true ∧ b.e = e) ∨ (b.lv = false ∧ ∃ (j : Nat) (x : Td), l[j]? = some x ∧ x.n = b.i ∧ (x.kd = 11 ∨ x.kd = 12) ∧ b.e = tm x)
theorem mkB_org {l : List Td} {e : Int} {i : Nat} {t : Td} (ht : l[i]? = some t) (hA : isA t = true) : Org l e (mkB e t (l.drop (i + 1))) := by
  unfold isA at hA
  simp at hA
  unfold mkB
  cases h : (l.drop (i + 1)).find? (isE t.n) with
  | none => exact ⟨⟨i, t, ht, hA, rfl, rfl, rfl, rfl, rfl⟩, .inl ⟨rfl, rfl⟩⟩
  | some x =>
    refine ⟨⟨i, t, ht, hA, rfl, rfl, rfl, rfl, rfl⟩, .inr ⟨rfl, ?_⟩⟩
    have h1 := List.mem_of_find?_eq_some h
    have h2 := List.find?_some h
    obtain ⟨j, hj⟩ := List.mem_iff_getElem?.1 h1
    rw [List.getElem?_drop] at hj
    unfold isE at h2
    simp at h2
    exact ⟨_, x, hj, h2.1, h2.2, rfl⟩
theorem allB_org (l : List Td) (e : Int) : ∀ b ∈ allB e l, Org l e b := allB_all e l fun i t ht hA => mkB_org ht hA
theorem tm_rng (t : Td) : 0 ≤ tm t ∧ tm t ≤ 1000000000000 := clp_rng _
theorem end_rng (l : List Td) (e : Int) : 0 ≤ endM l e ∧ endM l e ≤ 1000000000000 := clp_rng _
theorem org_rng {l : List Td} (h : okT l) {a : Int} {b : Bk} (ho : Org l (endM l a) b) (hfe : b.f < b.e) : ¬ rngBad b ∧ framesE b.st = 0 := by
  obtain ⟨⟨i, t, ht, hk, h1, h2, h3, h4, h5⟩, hf⟩ := ho
  have hb := h i t ht
  unfold badT at hb
  simp only [not_or, not_and] at hb
  obtain ⟨b1, b2, b3, b4, b5, -⟩ := hb
  obtain ⟨b6, b7, b8⟩ := b5 hk
  have hr := tm_rng t
  have he : 0 ≤ b.e ∧ b.e ≤ 1000000000000 := by
    rcases hf with ⟨_, h6⟩ | ⟨_, j, x, _, _, _, h6⟩
    · rw [h6]; exact end_rng l a
    · rw [h6]; exact tm_rng x
  refine ⟨?_, by rw [h5]; simpa using b8⟩
  unfold rngBad
  omega
/-- blocks with the same number lie behind each other -/
def Apart (c d : Bk) : Prop := c.i = d.i → c.e ≤ d.f ∨ d.e ≤ c.f
theorem allB_apart (e : Int) : ∀ (l : List Td), (∀ (i j : Nat) (t u : Td), i ≤ j → l[i]? = some t → l[j]? = some u → tm t ≤ tm u) → (allB e l).Pairwise Apart
  | [], _ => by simp [allB]
  | t :: r, h => by
    have ih := allB_apart e r fun i j a b hij ha hb => h (i + 1) (j + 1) a b (by omega) ha hb
    unfold allB
    rw [List.pairwise_append]
    refine ⟨by split <;> simp, ih, fun c hc d hd hcd => ?_⟩
    split at hc
    · rw [List.mem_singleton] at hc
      subst hc
      left
      -- d begins at an event of r with the same number
      obtain ⟨⟨j, u, hu, hk, h1, _, _, h4, _⟩, _⟩ := allB_org r e d hd
      rw [mkB_i, h1] at hcd
      rw [h4]
      unfold mkB
      cases hx : r.find? (isE t.n) with
      | none =>
        exfalso
        have := List.find?_eq_none.1 hx u (List.mem_of_getElem? hu)
        unfold isE at this
        simp [hk, hcd] at this
      | some x =>
        simp only
        -- x is the first, so not behind u
        obtain ⟨_, n, hn, hx1, hx2⟩ := List.find?_eq_some_iff_getElem.1 hx
        have hnj : n ≤ j := by
          rcases Nat.lt_or_ge j n with h5 | h5
          · have h6 := hx2 j h5
            have h7 : r[j]? = some r[j] := List.getElem?_eq_getElem (by omega)
            rw [hu] at h7
            have h8 := Option.some.inj h7
            rw [← h8] at h6
            unfold isE at h6
            simp [hk, hcd] at h6
          · exact h5
        exact h (n + 1) (j + 1) x u (by omega) (by rw [List.getElem?_cons_succ, List.getElem?_eq_getElem hn, hx1]) (by rw [List.getElem?_cons_succ]; exact hu)
    · cases hc
theorem ofB_apart {l : List Td} (h : okT l) (a : Int) : (ofB l a).Pairwise Apart := by
  have h1 := allB_apart (endM l a) l fun i j t u hij ht hu => okT_times h hij ht hu
  have h2 : ((allB (endM l a) l).filter keepB).Pairwise Apart := h1.sublist List.filter_sublist
  unfold ofB
  refine (srtS_perm leB _).symm.pairwise h2 ?_
  intro c d hcd e
  rcases hcd e.symm with h3 | h3
  · exact .inr h3
  · exact .inl h3
theorem ofB_srt (l : List Td) (a : Int) : (ofB l a).Pairwise fun c d => c.f ≤ d.f := by
  have := (srtS_SSt leB_ord ((allB (endM l a) l).filter keepB)).1
  unfold ofB
  exact this.imp fun h => by unfold leB at h; simpa using h
/-- what Of makes is accepted -/
theorem chk_of {l : List Td} (h : okT l) (a : Int) : chkL (ofB l a) = 0 := by
  refine chkL_ok fun k hk => ?_
  obtain ⟨b, hb⟩ : ∃ b, (ofB l a)[k]? = some b := ⟨_, List.getElem?_eq_getElem hk⟩
  have hm := ofB_mem (List.mem_of_getElem? hb)
  obtain ⟨h1, h2⟩ := org_rng h (allB_org l _ b hm.1) hm.2
  unfold errZ
  rw [hb]
  simp only
  unfold errAt
  rw [if_neg h1, if_neg (by simp [h2])]
  have hsrt := ofB_srt l a
  have hap := ofB_apart h a
  rw [List.pairwise_iff_getElem] at hsrt hap
  have hbk := (List.getElem?_eq_some_iff.1 hb).2
  rw [if_neg, if_neg]
  · rw [twB_iff]
    rintro ⟨c, hc, hci, hbf⟩
    obtain ⟨j, hj⟩ := List.mem_iff_getElem?.1 hc
    rw [List.getElem?_take] at hj
    split at hj
    · rename_i hjk
      obtain ⟨hjl, hjc⟩ := List.getElem?_eq_some_iff.1 hj
      have s1 := hsrt j k hjl hk hjk
      have s2 := hap j k hjl hk hjk
      rw [hjc, hbk] at s1 s2
      rcases s2 hci with h3 | h3
      · omega
      · have := hm.2
        omega
    · cases hj
  · rintro ⟨hk0, hlt⟩
    obtain ⟨c, hc⟩ : ∃ c, (ofB l a)[k - 1]? = some c := ⟨_, List.getElem?_eq_getElem (by omega)⟩
    have s1 := hsrt (k - 1) k (by omega) hk (by omega)
    rw [hbk, (List.getElem?_eq_some_iff.1 hc).2] at s1
    unfold fAt at hlt
    rw [hc] at hlt
    simp only at hlt
    omega
theorem allB_cnt (e : Int) : ∀ l : List Td, (allB e l).length = cntT l 11
  | [] => rfl
  | t :: r => by
    have ih := allB_cnt e r
    have e1 : allB e (t :: r) = (if isA t = true then [mkB e t r] else []) ++ allB e r := rfl
    rw [e1, List.length_append, ih]
    unfold cntT isA
    rw [List.filter_cons]
    by_cases hk : t.kd = 11
    · simp [hk]; omega
    · simp [hk]
theorem ofB_cnt (l : List Td) (a : Int) : (ofB l a).length ≤ cntT l 11 := by
  unfold ofB
  rw [srtS_len, ← allB_cnt (endM l a) l]
  exact List.length_filter_le _ _
end Go.Proofs.Ytalmhggbdfjalaa
