/- Regions that draw their order. -/
import Derived.Test.YtecmcggnpgjbiaaEvT
namespace Go.Proofs.Ytecmcggnpgjbiaa
open Go Go.RowKit
set_option linter.unusedSectionVars false
variable [Bs]
set_option linter.unusedVariables false
set_option linter.unusedSimpArgs false

theorem pairsFrom_spec {x : Oper × AOper} {i : Nat} : ∀ {r : List (Oper × AOper)} {bs : List Nat}, pairsFrom x i r bs = true → ∀ (q : Nat) (y : Oper × AOper), r[q]? = some y → ∃ b, bs[q]? = some b ∧ pairOk b i x y = true
  | [], bs, _, q, y, hy => by simp at hy
  | y0 :: r, [], h, q, y, hy => by simp [pairsFrom] at h
  | y0 :: r, b :: bs, h, q, y, hy => by
    simp only [pairsFrom, Bool.and_eq_true] at h
    cases q with
    | zero => simp at hy; subst hy; exact ⟨b, rfl, h.1⟩
    | succ q => simpa using pairsFrom_spec h.2 q y (by simpa using hy)
theorem pairsGo_spec : ∀ {i : Nat} {l : List (Oper × AOper)} {bs : List Nat}, pairsGo i l bs = true → ∀ (p q : Nat) (x y : Oper × AOper), p < q → l[p]? = some x → l[q]? = some y → ∃ b, bs[q]? = some b ∧ pairOk b (i + p) x y = true
  | i, [], bs, _, p, q, x, y, _, hx, _ => by simp at hx
  | i, x0 :: r, bs, h, p, q, x, y, hpq, hx, hy => by
    simp only [pairsGo, Bool.and_eq_true] at h
    cases q with
    | zero => omega
    | succ q =>
      have tl : ∀ b, bs.tail[q]? = some b → bs[q + 1]? = some b := fun b hb => by cases bs <;> simp_all
      cases p with
      | zero =>
        simp at hx
        subst hx
        obtain ⟨b, h1, h2⟩ := pairsFrom_spec h.1 q y (by simpa using hy)
        exact ⟨b, tl b h1, by simpa using h2⟩
      | succ p =>
        obtain ⟨b, h1, h2⟩ := pairsGo_spec h.2 p q x y (by omega) (by simpa using hx) (by simpa using hy)
        exact ⟨b, tl b h1, by rw [show i + (p + 1) = i + 1 + p by omega]; exact h2⟩

theorem befOne_spec {acc : List Nat} {i : Nat} : ∀ {es : List Edge}, (befOne acc es).testBit i = true → ∃ e ∈ es, Region.binds .any e = true ∧ (i = e.on ∨ (acc.getD e.on 0).testBit i = true)
  | [], h => by simp [befOne] at h
  | e :: es, h => by
    simp only [befOne] at h
    split at h
    · rename_i hb
      rw [Nat.testBit_or, Nat.testBit_or, Bool.or_eq_true, Bool.or_eq_true] at h
      rcases h with (h | h) | h
      · rw [Nat.testBit_two_pow] at h
        exact ⟨e, by simp, hb, .inl (by have := of_decide_eq_true h; omega)⟩
      · exact ⟨e, by simp, hb, .inr h⟩
      · obtain ⟨e', h1, h2⟩ := befOne_spec h
        exact ⟨e', by simp [h1], h2⟩
    · obtain ⟨e', h1, h2⟩ := befOne_spec h
      exact ⟨e', by simp [h1], h2⟩

/-- what is before an operation whose edges are done is done -/
theorem befAll_spec {G : Nat → Prop} {all : List Oper} (hG : ∀ (x : Nat) (o : Oper), all[x]? = some o → G x → ∀ e ∈ o.after.toList, Region.binds .any e = true → G e.on) :
    ∀ (r : List Oper) (acc : List Nat) (d : List Oper), all = d ++ r → acc.length = d.length →
      (∀ (x : Nat) (o : Oper) (b : Nat), all[x]? = some o → acc[x]? = some b → (∀ e ∈ o.after.toList, Region.binds .any e = true → G e.on) → ∀ i, b.testBit i = true → G i) →
      ∀ (x : Nat) (o : Oper) (b : Nat), all[x]? = some o → (befAll r acc)[x]? = some b → (∀ e ∈ o.after.toList, Region.binds .any e = true → G e.on) → ∀ i, b.testBit i = true → G i
  | [], acc, d, _, _, h => by simpa [befAll] using h
  | o :: r, acc, d, hall, hlen, h => by
    simp only [befAll]
    refine befAll_spec hG r _ (d ++ [o]) (by simp [hall]) (by simp [hlen]) (fun x o' b hx hb he i hi => ?_)
    by_cases hc : x < acc.length
    · rw [List.getElem?_append_left hc] at hb
      exact h x o' b hx hb he i hi
    · have hxl : x = acc.length := by
        have := (List.getElem?_eq_some_iff.1 hb).1
        simp at this
        omega
      subst hxl
      simp at hb
      subst hb
      have hoo : o' = o := by
        rw [hall, List.getElem?_append_right (by omega), hlen] at hx
        simpa using hx.symm
      subst hoo
      obtain ⟨e, h1, h2, h3⟩ := befOne_spec hi
      rcases h3 with h3 | h3
      · rw [h3]; exact he e h1 h2
      · cases hb' : acc[e.on]? with
        | none => rw [List.getD_eq_getElem?_getD, hb'] at h3; simp at h3
        | some b' =>
          rw [List.getD_eq_getElem?_getD, hb'] at h3
          have hlt := (List.getElem?_eq_some_iff.1 hb').1
          have hlt2 : e.on < all.length := by rw [hall]; simp; omega
          have hge := he e h1 h2
          exact h e.on _ b' (List.getElem?_eq_getElem hlt2) hb' (hG e.on _ (List.getElem?_eq_getElem hlt2) hge) i h3

theorem edgesOk_spec : ∀ {i : Nat} {l : List Oper}, edgesOk i l = true → ∀ (x : Nat) (o : Oper), l[x]? = some o → ∀ e ∈ o.after.toList, Region.binds .any e = true → e.on < i + x
  | i, [], _, x, o, hx => by simp at hx
  | i, o0 :: r, h, x, o, hx => by
    simp only [edgesOk, Bool.and_eq_true] at h
    cases x with
    | zero =>
      simp at hx
      subst hx
      intro e he hb
      have := List.all_eq_true.1 h.1 e he
      simp [hb] at this
      simpa [Nat.blt_eq] using this
    | succ x =>
      intro e he hb
      have := edgesOk_spec h.2 x o (by simpa using hx) e he hb
      omega

section
variable {P : Program} {call : Cl} {own : List Nat}

theorem evOps_trace : ∀ {al : List AOper} {st st' : St}, evOps call al st = some st' → ∃ S : Nat → St, S 0 = st ∧ S al.length = st' ∧ ∀ (i : Nat) (ao : AOper), al[i]? = some ao → evOne call (S i) ao = some (S (i + 1))
  | [], st, st', h => by simp [evOps] at h; subst h; exact ⟨fun _ => st, rfl, rfl, fun i ao hi => by simp at hi⟩
  | ao :: al, st, st', h => by
    simp only [evOps] at h
    split at h
    · rename_i st1 h1
      obtain ⟨S, s0, s1, s2⟩ := evOps_trace h
      refine ⟨fun i => match i with | 0 => st | i + 1 => S i, rfl, by simpa using s1, fun i ao' hi => ?_⟩
      cases i with
      | zero => simp at hi; subst hi; simpa [s0] using h1
      | succ i => simpa using s2 i ao' (by simpa using hi)
    · cases h

/-- one step of the text's order: what it does to slots and blocks -/
structure StepOk (call : Cl) (s s' : St) (ao : AOper) : Prop where
  oth : ∀ t, ao.dst ≠ some t → s'.sl.getD t .top = s.sl.getD t .top
  len : s'.sl.length = s.sl.length
  ble : s.bl.length ≤ s'.bl.length
  pre : ao.op.isEff = false → ∃ ns : List Blk, s'.bl = s.bl ++ ns.map some
  non : memK ao.op = false → s'.bl = s.bl

theorem putP_oth {sl : List PV} {d : Option Nat} {p : PV} {t : Nat} (h : d ≠ some t) : (putP sl d p).getD t .top = sl.getD t .top := by
  cases d with
  | none => rfl
  | some d =>
    simp only [putP]
    rw [List.getD_eq_getElem?_getD, List.getD_eq_getElem?_getD, List.getElem?_set_ne (fun e => h (by rw [e]))]
theorem putP_len {sl : List PV} {d : Option Nat} {p : PV} : (putP sl d p).length = sl.length := by cases d <;> simp [putP]

theorem evPur_ind {sl : List PV} {ao : AOp} (hm : memK ao = false) (bl bl' : Blks) : evPur call sl bl ao = evPur call sl bl' ao := by
  cases ao with
  | conv k x =>
    cases k with
    | int k => simp only [evPur]; generalize x.ev sl = p; cases p <;> rfl
    | same => simp only [evPur]; generalize x.ev sl = p; cases p <;> rfl
    | _ => simp [memK] at hm
  | _ => first | rfl | (simp [memK] at hm; done)
theorem evPur_nil {sl : List PV} {bl : Blks} {ao : AOp} {p : PV} {ns : List Blk} (hm : memK ao = false) (h : evPur call sl bl ao = some (p, ns)) : ns = [] := by
  cases ao with
  | conv k x =>
    cases k with
    | int k => simp only [evPur] at h; (repeat' split at h) <;> first | (cases h; done) | (cases h; rfl)
    | same => simp only [evPur] at h; (repeat' split at h) <;> first | (cases h; done) | (cases h; rfl)
    | _ => simp [memK] at hm
  | _ => first
    | (simp [memK] at hm; done)
    | (simp only [evPur] at h
       (repeat' split at h) <;> first | (cases h; done) | (cases h; rfl))
theorem evPur_non {sl : List PV} {bl : Blks} {ao : AOp} {p : PV} {ns : List Blk} (hm : memK ao = false) (h : evPur call sl bl ao = some (p, ns)) : ns = [] ∧ ∀ bl', evPur call sl bl' ao = some (p, ns) :=
  ⟨evPur_nil hm h, fun bl' => (evPur_ind hm bl' bl).trans h⟩

theorem memK_eff {ao : AOp} (h : ao.isEff = true) : memK ao = true := by cases ao <;> first | rfl | (simp [AOp.isEff] at h; done)

theorem evEff_len {sl : List PV} {bl bl' : Blks} {ao : AOp} {p : PV} (h : evEff call sl bl ao = some (p, bl')) : bl.length ≤ bl'.length := by
  cases ao <;> simp only [evEff] at h <;> (repeat' split at h) <;> first | (cases h; done) | (cases h; simp; done) | (cases h; assumption)

theorem evOne_step {s s' : St} {ao : AOper} (h : evOne call s ao = some s') : StepOk call s s' ao := by
  have hop : ∀ {s'}, evOp call s ao = some s' → StepOk call s s' ao := by
    intro s' h
    unfold evOp at h
    split at h
    · rename_i he
      split at h
      · rename_i p bl' hev
        cases h
        exact ⟨fun t ht => putP_oth ht, putP_len, evEff_len hev, (fun hf => by rw [he] at hf; cases hf), (fun hm => by rw [memK_eff he] at hm; cases hm)⟩
      · cases h
    · split at h
      · rename_i p ns hev
        cases h
        exact ⟨fun t ht => putP_oth ht, putP_len, by simp, fun _ => ⟨ns, rfl⟩, fun hm => by simp [(evPur_non hm hev).1]⟩
      · cases h
  have hskip : StepOk call s ⟨putP s.sl ao.dst (.v (.tuple #[])), s.bl⟩ ao := ⟨fun t ht => putP_oth ht, putP_len, Nat.le_refl _, fun _ => ⟨[], by simp⟩, fun _ => rfl⟩
  unfold evOne at h
  split at h
  · exact hop h
  · split at h
    · split at h
      · exact hop h
      · cases h; exact hskip
    · cases h; exact hskip
    · cases h

end
end Go.Proofs.Ytecmcggnpgjbiaa
