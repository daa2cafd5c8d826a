/- Regions that draw their order. -/
import Derived.Test.YtlnaibkpmklkiaaEvT
namespace Go.Proofs.Ytlnaibkpmklkiaa
open Go Go.RowKit
set_option linter.unusedSectionVars false
variable [Bs]
set_option linter.unusedVariables false
set_option linter.unusedSimpArgs false

theorem pairsFrom_spec {soft : List Nat} {x : Oper × AOper} {i : Nat} : ∀ {j : Nat} {r : List (Oper × AOper)} {bs : List Nat}, pairsFrom soft x i j r bs = true → ∀ (q : Nat) (y : Oper × AOper), r[q]? = some y → ∃ b, bs[q]? = some b ∧ pairOk soft b i (j + q) x y = true
  | j, [], bs, _, q, y, hy => by simp at hy
  | j, y0 :: r, [], h, q, y, hy => by simp [pairsFrom] at h
  | j, y0 :: r, b :: bs, h, q, y, hy => by
    simp only [pairsFrom, Bool.and_eq_true] at h
    cases q with
    | zero => simp at hy; subst hy; exact ⟨b, rfl, h.1⟩
    | succ q =>
      obtain ⟨b', h1, h2⟩ := pairsFrom_spec h.2 q y (by simpa using hy)
      exact ⟨b', by simpa using h1, by rw [show j + (q + 1) = j + 1 + q by omega]; exact h2⟩
theorem pairsGo_spec {soft : List Nat} : ∀ {i : Nat} {l : List (Oper × AOper)} {bs : List Nat}, pairsGo soft i l bs = true → ∀ (p q : Nat) (x y : Oper × AOper), p < q → l[p]? = some x → l[q]? = some y → ∃ b, bs[q]? = some b ∧ pairOk soft b (i + p) (i + q) x y = true
  | i, [], bs, _, p, q, x, y, _, hx, _ => by simp at hx
  | i, x0 :: r, bs, h, p, q, x, y, hpq, hx, hy => by
    simp only [pairsGo, Bool.and_eq_true] at h
    cases q with
    | zero => omega
    | succ q =>
      have tl : ∀ b, bs.tail[q]? = some b → bs[q + 1]? = some b := fun b hb => by cases bs <;> simp_all
      cases p with
      | zero =>
        simp at hx
        subst hx
        obtain ⟨b, h1, h2⟩ := pairsFrom_spec h.1 q y (by simpa using hy)
        exact ⟨b, tl b h1, by rw [show i + (q + 1) = i + 1 + q by omega]; simpa using h2⟩
      | succ p =>
        obtain ⟨b, h1, h2⟩ := pairsGo_spec h.2 p q x y (by omega) (by simpa using hx) (by simpa using hy)
        exact ⟨b, tl b h1, by rw [show i + (p + 1) = i + 1 + p by omega, show i + (q + 1) = i + 1 + q by omega]; exact h2⟩

theorem befOne_spec {acc : List Nat} {i : Nat} : ∀ {es : List Edge}, (befOne acc es).testBit i = true → ∃ e ∈ es, Region.binds .any e = true ∧ (i = e.on ∨ (acc.getD e.on 0).testBit i = true)
  | [], h => by simp [befOne] at h
  | e :: es, h => by
    simp only [befOne] at h
    split at h
    · rename_i hb
      rw [Nat.testBit_or, Nat.testBit_or, Bool.or_eq_true, Bool.or_eq_true] at h
      rcases h with (h | h) | h
      · rw [Nat.testBit_two_pow] at h
        exact ⟨e, by simp, hb, .inl (by have := of_decide_eq_true h; omega)⟩
      · exact ⟨e, by simp, hb, .inr h⟩
      · obtain ⟨e', h1, h2⟩ := befOne_spec h
        exact ⟨e', by simp [h1], h2⟩
    · obtain ⟨e', h1, h2⟩ := befOne_spec h
      exact ⟨e', by simp [h1], h2⟩

/-- what is before an operation whose edges are done is done -/
theorem befAll_spec {G : Nat → Prop} {all : List Oper} (hG : ∀ (x : Nat) (o : Oper), all[x]? = some o → G x → ∀ e ∈ o.after.toList, Region.binds .any e = true → G e.on) :
    ∀ (r : List Oper) (acc : List Nat) (d : List Oper), all = d ++ r → acc.length = d.length →
      (∀ (x : Nat) (o : Oper) (b : Nat), all[x]? = some o → acc[x]? = some b → (∀ e ∈ o.after.toList, Region.binds .any e = true → G e.on) → ∀ i, b.testBit i = true → G i) →
      ∀ (x : Nat) (o : Oper) (b : Nat), all[x]? = some o → (befAll r acc)[x]? = some b → (∀ e ∈ o.after.toList, Region.binds .any e = true → G e.on) → ∀ i, b.testBit i = true → G i
  | [], acc, d, _, _, h => by simpa [befAll] using h
  | o :: r, acc, d, hall, hlen, h => by
    simp only [befAll]
    refine befAll_spec hG r _ (d ++ [o]) (by simp [hall]) (by simp [hlen]) (fun x o' b hx hb he i hi => ?_)
    by_cases hc : x < acc.length
    · rw [List.getElem?_append_left hc] at hb
      exact h x o' b hx hb he i hi
    · have hxl : x = acc.length := by
        have := (List.getElem?_eq_some_iff.1 hb).1
        simp at this
        omega
      subst hxl
      simp at hb
      subst hb
      have hoo : o' = o := by
        rw [hall, List.getElem?_append_right (by omega), hlen] at hx
        simpa using hx.symm
      subst hoo
      obtain ⟨e, h1, h2, h3⟩ := befOne_spec hi
      rcases h3 with h3 | h3
      · rw [h3]; exact he e h1 h2
      · cases hb' : acc[e.on]? with
        | none => rw [List.getD_eq_getElem?_getD, hb'] at h3; simp at h3
        | some b' =>
          rw [List.getD_eq_getElem?_getD, hb'] at h3
          have hlt := (List.getElem?_eq_some_iff.1 hb').1
          have hlt2 : e.on < all.length := by rw [hall]; simp; omega
          have hge := he e h1 h2
          exact h e.on _ b' (List.getElem?_eq_getElem hlt2) hb' (hG e.on _ (List.getElem?_eq_getElem hlt2) hge) i h3

theorem edgesOk_spec : ∀ {i : Nat} {l : List Oper}, edgesOk i l = true → ∀ (x : Nat) (o : Oper), l[x]? = some o → ∀ e ∈ o.after.toList, Region.binds .any e = true → e.on < i + x
  | i, [], _, x, o, hx => by simp at hx
  | i, o0 :: r, h, x, o, hx => by
    simp only [edgesOk, Bool.and_eq_true] at h
    cases x with
    | zero =>
      simp at hx
      subst hx
      intro e he hb
      have := List.all_eq_true.1 h.1 e he
      simp [hb] at this
      simpa [Nat.blt_eq] using this
    | succ x =>
      intro e he hb
      have := edgesOk_spec h.2 x o (by simpa using hx) e he hb
      omega

section
variable {P : Program} {call : Cl} {own : List Nat}

theorem evOps_trace : ∀ {al : List AOper} {st st' : St}, evOps call al st = some st' → ∃ S : Nat → St, S 0 = st ∧ S al.length = st' ∧ ∀ (i : Nat) (ao : AOper), al[i]? = some ao → evOne call (S i) ao = some (S (i + 1))
  | [], st, st', h => by simp [evOps] at h; subst h; exact ⟨fun _ => st, rfl, rfl, fun i ao hi => by simp at hi⟩
  | ao :: al, st, st', h => by
    simp only [evOps] at h
    split at h
    · rename_i st1 h1
      obtain ⟨S, s0, s1, s2⟩ := evOps_trace h
      refine ⟨fun i => match i with | 0 => st | i + 1 => S i, rfl, by simpa using s1, fun i ao' hi => ?_⟩
      cases i with
      | zero => simp at hi; subst hi; simpa [s0] using h1
      | succ i => simpa using s2 i ao' (by simpa using hi)
    · cases h

/-- one step of the text's order: what it does to slots and blocks -/
structure StepOk (call : Cl) (s s' : St) (ao : AOper) : Prop where
  oth : ∀ t, ao.dst ≠ some t → s'.sl.getD t .top = s.sl.getD t .top
  len : s'.sl.length = s.sl.length
  ble : s.bl.length ≤ s'.bl.length
  pre : ao.op.isEff = false → ∃ ns : List Blk, s'.bl = s.bl ++ ns.map some
  non : memK ao.op = false → s'.bl = s.bl

theorem putP_oth {sl : List PV} {d : Option Nat} {p : PV} {t : Nat} (h : d ≠ some t) : (putP sl d p).getD t .top = sl.getD t .top := by
  cases d with
  | none => rfl
  | some d =>
    simp only [putP]
    rw [List.getD_eq_getElem?_getD, List.getD_eq_getElem?_getD, List.getElem?_set_ne (fun e => h (by rw [e]))]
theorem putP_len {sl : List PV} {d : Option Nat} {p : PV} : (putP sl d p).length = sl.length := by cases d <;> simp [putP]

theorem evPur_ind {sl : List PV} {ao : AOp} (hm : memK ao = false) (bl bl' : Blks) : evPur call sl bl ao = evPur call sl bl' ao := by
  cases ao with
  | conv k x =>
    cases k with
    | int k => simp only [evPur]; generalize x.ev sl = p; cases p <;> rfl
    | same => simp only [evPur]; generalize x.ev sl = p; cases p <;> rfl
    | _ => simp [memK] at hm
  | _ => first | rfl | (simp [memK] at hm; done)
theorem evPur_nil {sl : List PV} {bl : Blks} {ao : AOp} {p : PV} {ns : List Blk} (hm : memK ao = false) (h : evPur call sl bl ao = some (p, ns)) : ns = [] := by
  cases ao with
  | conv k x =>
    cases k with
    | int k => simp only [evPur] at h; (repeat' split at h) <;> first | (cases h; done) | (cases h; rfl)
    | same => simp only [evPur] at h; (repeat' split at h) <;> first | (cases h; done) | (cases h; rfl)
    | _ => simp [memK] at hm
  | _ => first
    | (simp [memK] at hm; done)
    | (simp only [evPur] at h
       (repeat' split at h) <;> first | (cases h; done) | (cases h; rfl))
theorem evPur_non {sl : List PV} {bl : Blks} {ao : AOp} {p : PV} {ns : List Blk} (hm : memK ao = false) (h : evPur call sl bl ao = some (p, ns)) : ns = [] ∧ ∀ bl', evPur call sl bl' ao = some (p, ns) :=
  ⟨evPur_nil hm h, fun bl' => (evPur_ind hm bl' bl).trans h⟩

theorem memK_eff {ao : AOp} (h : ao.isEff = true) : memK ao = true := by cases ao <;> first | rfl | (simp [AOp.isEff] at h; done)

theorem evEff_len {sl : List PV} {bl bl' : Blks} {ao : AOp} {p : PV} (h : evEff call sl bl ao = some (p, bl')) : bl.length ≤ bl'.length := by
  cases ao <;> simp only [evEff] at h <;> (repeat' split at h) <;> first | (cases h; done) | (cases h; simp; done) | (cases h; assumption)

theorem evOne_step {s s' : St} {ao : AOper} (h : evOne call s ao = some s') : StepOk call s s' ao := by
  have hop : ∀ {s'}, evOp call s ao = some s' → StepOk call s s' ao := by
    intro s' h
    unfold evOp at h
    split at h
    · rename_i he
      split at h
      · rename_i p bl' hev
        cases h
        exact ⟨fun t ht => putP_oth ht, putP_len, evEff_len hev, (fun hf => by rw [he] at hf; cases hf), (fun hm => by rw [memK_eff he] at hm; cases hm)⟩
      · cases h
    · split at h
      · rename_i p ns hev
        cases h
        exact ⟨fun t ht => putP_oth ht, putP_len, by simp, fun _ => ⟨ns, rfl⟩, fun hm => by simp [(evPur_non hm hev).1]⟩
      · cases h
  have hskip : StepOk call s ⟨putP s.sl ao.dst (.v (.tuple #[])), s.bl⟩ ao := ⟨fun t ht => putP_oth ht, putP_len, Nat.le_refl _, fun _ => ⟨[], by simp⟩, fun _ => rfl⟩
  unfold evOne at h
  split at h
  · exact hop h
  · split at h
    · split at h
      · exact hop h
      · cases h; exact hskip
    · cases h; exact hskip
    · cases h

theorem hard_eff {soft : List Nat} {j : Nat} {ao : AOp} (h : ao.isEff = true) : hardK soft j ao = true := by
  unfold hardK
  rw [memK_eff h, h]
  rfl
theorem getB_at {bl bl2 : Blks} {b : Nat} (h : bl2[b]? = bl[b]?) (ver : Nat) : getB bl2 b ver = getB bl b ver := by
  unfold getB
  rw [h]
/-- an operation that makes nothing, where the blocks that it looks at are the same -/
theorem soft_same {sl : List PV} {bl bl2 : Blks} {ao : AOp} {p : PV} {ns : List Blk} {rs : List Nat} (hr : softRd sl ao = some rs) (hb : ∀ b ∈ rs, bl2[b]? = bl[b]?) (h : evPur call sl bl ao = some (p, ns)) : ns = [] ∧ evPur call sl bl2 ao = some (p, ns) := by
  have key : ∀ (x : PV), rs = rdP x → ∀ b ver r off, x = .ptr b ver r off → ∀ v, getB bl2 b v = getB bl b v := fun x e b ver r off hx v => getB_at (hb b (by rw [e, hx]; simp [rdP])) v
  have keyo : ∀ (x : PV), rs = rdP x → ∀ b ver r off, x = .own b ver r off → ∀ v, getB bl2 b v = getB bl b v := fun x e b ver r off hx v => getB_at (hb b (by rw [e, hx]; simp [rdP])) v
  cases ao with
  | load n agg a =>
    simp only [softRd, Option.some.injEq] at hr
    simp only [evPur] at h ⊢
    split at h
    · rename_i b ver r off hv
      rw [key _ hr.symm b ver r off hv]
      refine ⟨?_, h⟩
      (repeat' split at h) <;> first | (cases h; done) | (cases h; rfl)
    · refine ⟨?_, h⟩
      (repeat' split at h) <;> first | (cases h; done) | (cases h; rfl)
    · cases h
  | faddr off a =>
    simp only [softRd, Option.some.injEq] at hr
    simp only [evPur] at h ⊢
    split at h
    · rename_i b ver r o hv
      rw [key _ hr.symm b ver r o hv]
      refine ⟨?_, h⟩
      (repeat' split at h) <;> first | (cases h; done) | (cases h; rfl)
    · refine ⟨?_, h⟩
      cases h; rfl
    · cases h
  | len x =>
    simp only [softRd, Option.some.injEq] at hr
    simp only [evPur] at h ⊢
    split at h
    · exact ⟨by cases h; rfl, h⟩
    · exact ⟨by cases h; rfl, h⟩
    · rename_i b ver lo len hv
      rw [keyo _ hr.symm b ver lo len hv]
      refine ⟨?_, h⟩
      (repeat' split at h) <;> first | (cases h; done) | (cases h; rfl)
    · cases h
  | iaddr k x i =>
    simp only [softRd, Option.some.injEq] at hr
    simp only [evPur] at h ⊢
    split at h
    · split at h
      · rename_i hi
        rw [if_pos hi]
        split at h
        · split at h
          · refine ⟨?_, h⟩
            (repeat' split at h) <;> first | (cases h; done) | (cases h; rfl)
          · rename_i b ver lo len hv
            rw [keyo _ hr.symm b ver lo len hv]
            refine ⟨?_, h⟩
            (repeat' split at h) <;> first | (cases h; done) | (cases h; rfl)
          · cases h
        · split at h
          · rename_i hin
            rw [if_pos hin]
            split at h
            · rename_i b ver r o hv
              rw [key _ hr.symm b ver r o hv]
              refine ⟨?_, h⟩
              (repeat' split at h) <;> first | (cases h; done) | (cases h; rfl)
            · exact ⟨by cases h; rfl, h⟩
            · cases h
          · cases h
      · cases h
    · cases h
  | bslice own e z n parts =>
    simp only [softRd] at hr
    split at hr
    · cases hr
    · rename_i ho
      have ho : own = false := by simpa using ho
      subst ho
      split at hr
      · rename_i cs hcs
        split at hr
        · rename_i hlt
          simp only [evPur, hcs] at h ⊢
          split at h
          · rename_i hleaf
            rw [if_pos hleaf]
            simp only [Bool.false_or, hlt, Bool.not_true, Bool.false_eq_true, if_false] at h ⊢
            exact ⟨by cases h; rfl, h⟩
          · cases h
        · cases hr
      · cases hr
  | _ => simp [softRd] at hr
/-- a block that an operation does not change -/
theorem eff_keep {sl : List PV} {bl bl' : Blks} {ao : AOp} {p : PV} {ts : List Nat} {b : Nat} (ht : effTg sl ao = some ts) (hb : b < bl.length) (hn : ¬ b ∈ ts) (h : evEff call sl bl ao = some (p, bl')) : bl'[b]? = bl[b]? := by
  cases ao with
  | store n a x =>
    simp only [effTg] at ht
    simp only [evEff] at h
    split at ht
    · rename_i b0 ver r off hv
      cases ht
      rw [hv] at h
      have hne : b0 ≠ b := fun e => hn (by simp [e])
      simp only at h
      (repeat' split at h) <;> first | (cases h; done) | (cases h; exact List.getElem?_set_ne hne)
    · cases ht
  | append e by_ s x =>
    simp only [effTg] at ht
    simp only [evEff] at h
    split at h
    · split at ht
      · rename_i b0 ver lo len hv
        cases ht
        rw [hv] at h
        have hne : b0 ≠ b := fun e => hn (by simp [e])
        simp only at h
        (repeat' split at h) <;> first | (cases h; done) | (cases h; exact List.getElem?_set_ne hne)
      · rename_i hv
        cases ht
        rw [hv] at h
        simp only at h
        (repeat' split at h) <;> first | (cases h; done) | (cases h; exact List.getElem?_append_left hb)
      · rename_i e' rows hv
        cases ht
        rw [hv] at h
        simp only at h
        (repeat' split at h) <;> first | (cases h; done) | (cases h; exact List.getElem?_append_left hb)
      · cases ht
    · cases h
  | copy e d s =>
    simp only [effTg] at ht
    simp only [evEff] at h
    split at ht
    · rename_i b0 ver lo len hv
      cases ht
      rw [hv] at h
      have hne : b0 ≠ b := fun e => hn (by simp [e])
      split at h
      · rename_i h1 h2
        cases h1
        (repeat' split at h) <;> first | (cases h; done) | (cases h; exact List.getElem?_set_ne hne)
      · cases h
    · cases ht
  | clr e z d =>
    simp only [effTg] at ht
    simp only [evEff] at h
    split at ht
    · rename_i b0 ver lo len hv
      cases ht
      rw [hv] at h
      have hne : b0 ≠ b := fun e => hn (by simp [e])
      simp only at h
      (repeat' split at h) <;> first | (cases h; done) | (cases h; exact List.getElem?_set_ne hne)
    · cases ht
  | mset ks ag m k v =>
    simp only [effTg] at ht
    simp only [evEff] at h
    split at ht
    · rename_i b0 ver hv
      cases ht
      rw [hv] at h
      have hne : b0 ≠ b := fun e => hn (by simp [e])
      split at h
      · rename_i h1 h2
        cases h2
        (repeat' split at h) <;> first | (cases h; done) | (cases h; exact List.getElem?_set_ne hne)
      · cases h
    · cases ht
  | mdel ks ag m k =>
    simp only [effTg] at ht
    simp only [evEff] at h
    split at ht
    · rename_i b0 ver hv
      cases ht
      rw [hv] at h
      have hne : b0 ≠ b := fun e => hn (by simp [e])
      split at h
      · rename_i h1 h2
        cases h2
        (repeat' split at h) <;> first | (cases h; done) | (cases h; exact List.getElem?_set_ne hne)
      · cases h
    · cases ht
  | _ => simp [effTg] at ht
theorem softGo_spec {soft : List Nat} : ∀ {al : List AOper} {i : Nat} {st : St} {rd tg : List Nat}, softGo call soft i al st = some (rd, tg) → ∀ S : Nat → St, S 0 = st → (∀ (j : Nat) (ao : AOper), al[j]? = some ao → evOne call (S j) ao = some (S (j + 1))) →
    (∀ (j : Nat) (ao : AOper), al[j]? = some ao → ao.op.isEff = true → ∃ ts, effTg (S j).sl ao.op = some ts ∧ ∀ b ∈ ts, b ∈ tg) ∧
    (∀ (j : Nat) (ao : AOper), al[j]? = some ao → ao.op.isEff = false → hasN (i + j) soft = true → ao.guard = none ∧ ∃ rs, softRd (S j).sl ao.op = some rs ∧ ∀ b ∈ rs, b ∈ rd)
  | [], i, st, rd, tg, h, S, s0, s1 => ⟨fun j ao hj => by simp at hj, fun j ao hj => by simp at hj⟩
  | o :: al, i, st, rd, tg, h, S, s0, s1 => by
    have h1 := s1 0 o rfl
    rw [s0] at h1
    simp only [softGo, h1] at h
    split at h
    · rename_i rd0 tg0 hgo
      obtain ⟨i1, i2⟩ := softGo_spec hgo (fun j => S (j + 1)) rfl (fun j ao hj => s1 (j + 1) ao (by simpa using hj))
      split at h
      · rename_i hef
        split at h
        · rename_i ts hts
          cases h
          refine ⟨fun j ao hj he => ?_, fun j ao hj he hs => ?_⟩
          · cases j with
            | zero => simp at hj; subst hj; exact ⟨ts, by rw [s0]; exact hts, fun b hb => List.mem_append_left _ hb⟩
            | succ j =>
              obtain ⟨ts', q1, q2⟩ := i1 j ao (by simpa using hj) he
              exact ⟨ts', q1, fun b hb => List.mem_append_right _ (q2 b hb)⟩
          · cases j with
            | zero => simp at hj; subst hj; rw [hef] at he; cases he
            | succ j => exact i2 j ao (by simpa using hj) he (by rw [show i + 1 + j = i + (j + 1) by omega]; exact hs)
        · cases h
      · rename_i hef
        split at h
        · rename_i hso
          split at h
          · rename_i rs hg hrs
            cases h
            refine ⟨fun j ao hj he => ?_, fun j ao hj he hs => ?_⟩
            · cases j with
              | zero => simp at hj; subst hj; exact absurd he hef
              | succ j => exact i1 j ao (by simpa using hj) he
            · cases j with
              | zero => simp at hj; subst hj; exact ⟨hg, rs, by rw [s0]; exact hrs, fun b hb => List.mem_append_left _ hb⟩
              | succ j =>
                obtain ⟨q1, rs', q2, q3⟩ := i2 j ao (by simpa using hj) he (by rw [show i + 1 + j = i + (j + 1) by omega]; exact hs)
                exact ⟨q1, rs', q2, fun b hb => List.mem_append_right _ (q3 b hb)⟩
          · cases h
        · rename_i hso
          cases h
          refine ⟨fun j ao hj he => ?_, fun j ao hj he hs => ?_⟩
          · cases j with
            | zero => simp at hj; subst hj; exact absurd he hef
            | succ j => exact i1 j ao (by simpa using hj) he
          · cases j with
            | zero => exact absurd hs hso
            | succ j => exact i2 j ao (by simpa using hj) he (by rw [show i + 1 + j = i + (j + 1) by omega]; exact hs)
    · cases h
/-- the operations that may change places find the same at every time of the region -/
theorem soft_reg {soft : List Nat} {al : List AOper} {st : St} (hc : softChk call soft al st = true) (S : Nat → St) (s0 : S 0 = st) (s1 : ∀ (j : Nat) (ao : AOper), al[j]? = some ao → evOne call (S j) ao = some (S (j + 1))) :
    ∀ (j : Nat) (ao : AOper) (f : Nat), al[j]? = some ao → ao.op.isEff = false → hasN j soft = true → f ≤ al.length → ao.guard = none ∧ ∃ p, evPur call (S j).sl (S j).bl ao.op = some (p, []) ∧ evPur call (S j).sl (S f).bl ao.op = some (p, []) := by
  unfold softChk at hc
  split at hc
  · rename_i rd tg hgo
    obtain ⟨i1, i2⟩ := softGo_spec hgo S s0 s1
    have hrd : ∀ b ∈ rd, b < st.bl.length ∧ ¬ b ∈ tg := fun b hb => by
      have := List.all_eq_true.1 hc b hb
      simp only [Bool.and_eq_true, Nat.blt_eq, Bool.not_eq_true'] at this
      refine ⟨this.1, fun hm => ?_⟩
      have hN : ∀ {b : Nat} {l : List Nat}, b ∈ l → hasN b l = true := by
        intro b l
        induction l with
        | nil => intro h; cases h
        | cons c r ih =>
          intro h
          simp only [hasN, Bool.or_eq_true]
          rcases List.mem_cons.1 h with rfl | h
          · exact .inl (by simp)
          · exact .inr (ih h)
      rw [hN hm] at this
      cases this.2
    have keep : ∀ (f : Nat), f ≤ al.length → ∀ b ∈ rd, (S f).bl[b]? = (S 0).bl[b]? ∧ b < (S f).bl.length := by
      intro f
      induction f with
      | zero => intro _ b hb; exact ⟨rfl, by rw [s0]; exact (hrd b hb).1⟩
      | succ f ih =>
        intro hf b hb
        obtain ⟨e1, e2⟩ := ih (by omega) b hb
        have hlt : f < al.length := by omega
        have hax := List.getElem?_eq_getElem hlt
        have hst := s1 f _ hax
        have hs := evOne_step hst
        have hlen : b < (S (f + 1)).bl.length := Nat.lt_of_lt_of_le e2 hs.ble
        refine ⟨?_, hlen⟩
        rw [← e1]
        cases hef : al[f].op.isEff
        · obtain ⟨ns, hns⟩ := hs.pre hef
          rw [hns, List.getElem?_append_left e2]
        · obtain ⟨ts, q1, q2⟩ := i1 f _ hax hef
          have hnt : ¬ b ∈ ts := fun h => (hrd b hb).2 (q2 b h)
          have hop : ∀ s', evOp call (S f) al[f] = some s' → s'.bl[b]? = (S f).bl[b]? := by
            intro s' h
            unfold evOp at h
            rw [if_pos hef] at h
            split at h
            · rename_i p bl' hev
              cases h
              exact eff_keep q1 e2 hnt hev
            · cases h
          unfold evOne at hst
          split at hst
          · exact hop _ hst
          · split at hst
            · split at hst
              · exact hop _ hst
              · have := (Option.some.inj hst).symm; rw [this]
            · have := (Option.some.inj hst).symm; rw [this]
            · cases hst
    intro j ao f hj hne hs hf
    obtain ⟨hg, rs, q1, q2⟩ := i2 j ao hj hne (by rw [Nat.zero_add]; exact hs)
    refine ⟨hg, ?_⟩
    have hst := s1 j ao hj
    have hjl := (List.getElem?_eq_some_iff.1 hj).1
    unfold evOne at hst
    rw [hg] at hst
    simp only [evOp, hne, Bool.false_eq_true, if_false] at hst
    split at hst
    · rename_i p ns hev
      obtain ⟨hns, _⟩ := soft_same (bl2 := (S j).bl) q1 (fun _ _ => rfl) hev
      subst hns
      refine ⟨p, hev, (soft_same (bl2 := (S f).bl) q1 (fun b hb => ?_) hev).2⟩
      rw [(keep f hf b (q2 b hb)).1, (keep j (by omega) b (q2 b hb)).1]
    · cases hst
  · cases hc

end
end Go.Proofs.Ytlnaibkpmklkiaa
