/- A region that draws its order ends as in the text's order. -/
import Derived.Test.YtlnaibkpmklkiaaEvU
namespace Go.Proofs.Ytlnaibkpmklkiaa
open Go Go.RowKit
set_option linter.unusedSectionVars false
variable [Bs]
set_option linter.unusedVariables false
set_option linter.unusedSimpArgs false

section
variable {P : Program} {call : Cl} {own : List Nat}

theorem digOps_get {ops : Array Oper} : ∀ {l : List Oper} {al : List AOper}, digOps P own ops l = some al → al.length = l.length ∧ ∀ (i : Nat) (o : Oper), l[i]? = some o → ∃ ao, al[i]? = some ao ∧ digOper P own ops o = some ao
  | [], al, h => by simp [digOps] at h; subst h; exact ⟨rfl, fun i o hi => by simp at hi⟩
  | o :: l, al, h => by
    simp only [digOps] at h
    split at h
    · rename_i ao al' h1 h2
      cases h
      obtain ⟨e1, e2⟩ := digOps_get h2
      refine ⟨by simp [e1], fun i o' hi => ?_⟩
      cases i with
      | zero => simp at hi; subst hi; exact ⟨ao, rfl, h1⟩
      | succ i => simpa using e2 i o' (by simpa using hi)
    · cases h

/-- the facts of a region, with the text's order laid down -/
structure Reg (P : Program) (call : Cl) (own : List Nat) (ops : Array Oper) (al : List AOper) (S : Nat → St) (e : Nat) (soft : List Nat) : Prop where
  len : al.length = ops.size
  op : ∀ (i : Nat) (o : Oper), ops[i]? = some o → ∃ ao, al[i]? = some ao ∧ digOper P own ops o = some ao
  step : ∀ (i : Nat) (ao : AOper), al[i]? = some ao → evOne call (S i) ao = some (S (i + 1))
  pair : ∀ (p q : Nat) (o1 o2 : Oper) (a1 a2 : AOper), p < q → ops[p]? = some o1 → ops[q]? = some o2 → al[p]? = some a1 → al[q]? = some a2 → ∃ b, (befAll ops.toList [])[q]? = some b ∧ pairOk soft b p q (o1, a1) (o2, a2) = true
  soft : ∀ (j : Nat) (ao : AOper) (f : Nat), al[j]? = some ao → ao.op.isEff = false → hasN j soft = true → f ≤ al.length → ao.guard = none ∧ ∃ p, evPur call (S j).sl (S j).bl ao.op = some (p, []) ∧ evPur call (S j).sl (S f).bl ao.op = some (p, [])
  edge : ∀ (i : Nat) (o : Oper), ops[i]? = some o → ∀ e ∈ o.after.toList, Region.binds .any e = true → e.on < i

theorem befAll_len : ∀ (l : List Oper) (acc : List Nat), (befAll l acc).length = acc.length + l.length
  | [], acc => by simp [befAll]
  | o :: l, acc => by simp [befAll, befAll_len l]; omega

section
variable {ops : Array Oper} {al : List AOper} {S : Nat → St} {e : Nat} {soft : List Nat} (R : Reg P call own ops al S e soft)
include R

theorem Reg.mono (i : Nat) : ∀ d, i + d ≤ ops.size → (S i).bl.length ≤ (S (i + d)).bl.length ∧ (S (i + d)).sl.length = (S i).sl.length
  | 0, _ => ⟨Nat.le_refl _, rfl⟩
  | d + 1, h => by
    obtain ⟨h1, h2⟩ := Reg.mono i d (by omega)
    have hlt : i + d < al.length := by rw [R.len]; omega
    have st := evOne_step (R.step (i + d) _ (List.getElem?_eq_getElem hlt))
    exact ⟨Nat.le_trans h1 st.ble, st.len.trans h2⟩

theorem Reg.pre (i : Nat) : ∀ d, i + d ≤ ops.size → (∀ (x : Nat) (ao : AOper), i ≤ x → x < i + d → al[x]? = some ao → ao.op.isEff = false) → ∃ ns : List Blk, (S (i + d)).bl = (S i).bl ++ ns.map some
  | 0, _, _ => ⟨[], by simp⟩
  | d + 1, h, he => by
    obtain ⟨ns, h1⟩ := Reg.pre i d (by omega) (fun x ao h1 h2 => he x ao h1 (by omega))
    have hlt : i + d < al.length := by rw [R.len]; omega
    have st := evOne_step (R.step (i + d) _ (List.getElem?_eq_getElem hlt))
    have hne : al[i + d].op.isEff = false := he _ _ (by omega) (by omega) (List.getElem?_eq_getElem hlt)
    obtain ⟨ns2, h2⟩ := st.pre hne
    exact ⟨ns ++ ns2, by rw [show i + (d + 1) = i + d + 1 by omega, h2, h1]; simp⟩

/-- the next operation that changes a block -/
theorem Reg.nextE : ∀ (d i : Nat), i + d = ops.size → ∃ f, i ≤ f ∧ f ≤ ops.size ∧ (∀ (x : Nat) (ao : AOper), i ≤ x → x < f → al[x]? = some ao → ao.op.isEff = false) ∧ (f < ops.size → ∃ ao, al[f]? = some ao ∧ ao.op.isEff = true)
  | 0, i, h => ⟨i, Nat.le_refl _, by omega, fun x ao h1 h2 => by omega, fun h2 => by omega⟩
  | d + 1, i, h => by
    have hlt : i < al.length := by rw [R.len]; omega
    cases hx : al[i].op.isEff
    · obtain ⟨f, h1, h2, h3, h4⟩ := Reg.nextE d (i + 1) (by omega)
      refine ⟨f, by omega, h2, fun x ao hx1 hx2 ha => ?_, h4⟩
      by_cases hxi : x = i
      · subst hxi
        rw [List.getElem?_eq_getElem hlt] at ha
        cases ha
        exact hx
      · exact h3 x ao (by omega) hx2 ha
    · exact ⟨i, Nat.le_refl _, by omega, fun x ao h1 h2 => by omega, fun _ => ⟨_, List.getElem?_eq_getElem hlt, hx⟩⟩

theorem Reg.same (t : Nat) (i : Nat) : ∀ d, i + d ≤ ops.size → (∀ (x : Nat) (ao : AOper), i ≤ x → x < i + d → al[x]? = some ao → ao.dst ≠ some t) → (S (i + d)).sl.getD t .top = (S i).sl.getD t .top
  | 0, _, _ => rfl
  | d + 1, h, hx => by
    have h1 := Reg.same t i d (by omega) (fun x ao h1 h2 => hx x ao h1 (by omega))
    have hlt : i + d < al.length := by rw [R.len]; omega
    have st := evOne_step (R.step (i + d) _ (List.getElem?_eq_getElem hlt))
    exact (st.oth t (hx _ _ (by omega) (by omega) (List.getElem?_eq_getElem hlt))).trans h1

/-- what may change places makes nothing -/
theorem Reg.nonhard (x : Nat) (ax : AOper) (hx : al[x]? = some ax) (hh : hardK soft x ax.op = false) : (S (x + 1)).bl = (S x).bl := by
  have hst := R.step x ax hx
  cases hm : memK ax.op
  · exact (evOne_step hst).non hm
  · unfold hardK at hh
    rw [hm] at hh
    simp only [Bool.true_and, Bool.or_eq_false_iff, Bool.not_eq_false'] at hh
    obtain ⟨hg, p, h1, _⟩ := R.soft x ax x hx hh.1 hh.2 (Nat.le_of_lt (List.getElem?_eq_some_iff.1 hx).1)
    unfold evOne at hst
    rw [hg] at hst
    simp only [evOp, hh.1, Bool.false_eq_true, if_false, h1] at hst
    have := (Option.some.inj hst).symm
    rw [this]
    simp

/-- two places between which nobody writes the slot -/
theorem Reg.same2 {t i j : Nat} (hi : i ≤ ops.size) (hj : j ≤ ops.size) (h : ∀ (x : Nat) (ao : AOper), al[x]? = some ao → ao.dst = some t → (x < i ↔ x < j)) : (S i).sl.getD t .top = (S j).sl.getD t .top := by
  rcases Nat.le_total i j with c | c
  · have := R.same t i (j - i) (by omega) (fun x ao h1 h2 ha hd => by have := h x ao ha hd; omega)
    rw [show i + (j - i) = j by omega] at this
    exact this.symm
  · have := R.same t j (i - j) (by omega) (fun x ao h1 h2 ha hd => by have := h x ao ha hd; omega)
    rw [show j + (i - j) = i by omega] at this
    exact this

end

def lst (listed : Array Bool) (x : Nat) : Prop := listed.getD x false = true

/-- what holds when some operations are done -/
structure Inv (P : Program) (call : Cl) (own : List Nat) (ops : Array Oper) (al : List AOper) (S : Nat → St) (e B : Nat) (listed : Array Bool) (m : Mem) (k : Nat) (w : World) (tmps : Array Value) : Prop where
  lsize : listed.size = ops.size
  closed : ∀ (x : Nat) (o : Oper), ops[x]? = some o → lst listed x → ∀ e ∈ o.after.toList, Region.binds .any e = true → lst listed e.on
  size : tmps.size = (S 0).sl.length
  slot : ∀ t, ∃ i, i ≤ ops.size ∧ (∀ (x : Nat) (ao : AOper), al[x]? = some ao → ao.dst = some t → (lst listed x ↔ x < i)) ∧ Rep m k ((S i).sl.getD t .top) (tmps.getD t undef)
  frz : FrzOk m w
  hB : B ≤ w.heap.size
  own : ∃ f, f ≤ ops.size ∧ (∀ (x : Nat) (ao : AOper), al[x]? = some ao → ao.op.isEff = true → (lst listed x ↔ x < f)) ∧ (f < ops.size → ∃ ao, al[f]? = some ao ∧ ao.op.isEff = true) ∧ Owns B m k w (S f).bl
  fresh1 : ∀ x, x < ops.size → ¬ lst listed x → ∀ id, (S x).bl.length ≤ id → id < (S (x + 1)).bl.length → m.blk id = none
  fresh2 : ∀ id, (S ops.size).bl.length ≤ id → m.blk id = none

theorem lst_set {listed : Array Bool} {i x : Nat} (hi : i < listed.size) : lst (listed.setIfInBounds i true) x ↔ lst listed x ∨ x = i := by
  unfold lst
  by_cases e : i = x
  · subst e; simp [hi]
  · rw [getD_set_ne false e]
    constructor
    · exact .inl
    · rintro (h | h)
      · exact h
      · exact absurd h.symm e

section
variable {ops : Array Oper} {al : List AOper} {S : Nat → St} {e B : Nat} {soft : List Nat}

/-- of two operations that must not change places, the earlier one comes first -/
theorem first_done (R : Reg P call own ops al S e soft) {listed : Array Bool} {p q : Nat} {o1 o2 : Oper} {a1 a2 : AOper} (hcl : ∀ (x : Nat) (o : Oper), ops[x]? = some o → lst listed x → ∀ e ∈ o.after.toList, Region.binds .any e = true → lst listed e.on)
    (hpq : p < q) (h1 : ops[p]? = some o1) (h2 : ops[q]? = some o2) (h3 : al[p]? = some a1) (h4 : al[q]? = some a2)
    (hq : ∀ e ∈ o2.after.toList, Region.binds .any e = true → lst listed e.on)
    (hc : (∃ d, o1.dst = some d ∧ (hasN d (looks o2 a2) = true ∨ o2.dst = some d)) ∨ (∃ d, o2.dst = some d ∧ hasN d (looks o1 a1) = true) ∨ (a1.op.isEff = true ∧ hardK soft q a2.op = true) ∨ (hardK soft p a1.op = true ∧ a2.op.isEff = true)) : lst listed p := by
  obtain ⟨b, hb, hp⟩ := R.pair p q o1 o2 a1 a2 hpq h1 h2 h3 h4
  unfold pairOk at hp
  rw [Bool.or_eq_true] at hp
  rcases hp with hp | hp
  · exact befAll_spec (G := lst listed) (all := ops.toList) (fun x o hx hG => hcl x o (by simpa using hx) hG) ops.toList [] [] rfl rfl (fun x o b _ hb => by simp at hb) q o2 b (by simpa using h2) hb hq p hp
  · exfalso
    simp only [Bool.and_eq_true, Bool.not_eq_true', Bool.and_eq_false_iff] at hp
    obtain ⟨⟨⟨g1, g2⟩, g3⟩, g4⟩ := hp
    rcases hc with ⟨d, hd, hc⟩ | ⟨d, hd, hc⟩ | ⟨c1, c2⟩ | ⟨c1, c2⟩
    · rw [hd] at g1
      simp only [Bool.and_eq_true, Bool.not_eq_true'] at g1
      rcases hc with hc | hc
      · rw [hc] at g1; exact absurd g1.1 (by simp)
      · rw [hc] at g1; simp at g1
    · rw [hd] at g2
      simp only [Bool.not_eq_true'] at g2
      rw [hc] at g2; cases g2
    · rcases g3 with g3 | g3
      · rw [c1] at g3; cases g3
      · rw [c2] at g3; cases g3
    · rcases g4 with g4 | g4
      · rw [c1] at g4; cases g4
      · rw [c2] at g4; cases g4

theorem hasN_iff {b : Nat} : ∀ {l : List Nat}, hasN b l = true ↔ b ∈ l
  | [] => by simp [hasN]
  | c :: r => by
    simp only [hasN, Bool.or_eq_true, List.mem_cons, hasN_iff (l := r), Nat.beq_eq]

/-- an operation whose turn it may be -/
structure Turn (ops : Array Oper) (al : List AOper) (listed : Array Bool) (j : Nat) (o : Oper) (ao : AOper) : Prop where
  ho : ops[j]? = some o
  ha : al[j]? = some ao
  un : ¬ lst listed j
  edge : ∀ e ∈ o.after.toList, Region.binds .any e = true → lst listed e.on

theorem Turn.lt {listed : Array Bool} {j : Nat} {o : Oper} {ao : AOper} (T : Turn ops al listed j o ao) : j < ops.size := (Array.getElem?_eq_some_iff.1 T.ho).1

/-- a slot that it looks at or writes: its writers before it are done, those behind it are not -/
theorem Turn.writers (R : Reg P call own ops al S e soft) {listed : Array Bool} {j : Nat} {o : Oper} {ao : AOper} (T : Turn ops al listed j o ao)
    (hcl : ∀ (x : Nat) (o : Oper), ops[x]? = some o → lst listed x → ∀ e ∈ o.after.toList, Region.binds .any e = true → lst listed e.on)
    {t : Nat} (ht : t ∈ looks o ao ∨ o.dst = some t) (x : Nat) (ax : AOper) (hx : al[x]? = some ax) (hd : ax.dst = some t) : (lst listed x ↔ x < j) := by
  have hxl : x < ops.size := by rw [← R.len]; exact (List.getElem?_eq_some_iff.1 hx).1
  have hox := Array.getElem?_eq_getElem hxl
  obtain ⟨ax', hax', hdig⟩ := R.op x _ hox
  rw [hx] at hax'
  cases hax'
  have hdx : ops[x].dst = some t := by rw [← (digOper_spec hdig).2.1]; exact hd
  rcases Nat.lt_trichotomy x j with c | c | c
  · refine ⟨fun _ => c, fun _ => first_done R hcl c hox T.ho hx T.ha T.edge (.inl ⟨t, hdx, ?_⟩)⟩
    rcases ht with ht | ht
    · exact .inl (hasN_iff.2 ht)
    · exact .inr ht
  · subst c
    exact ⟨fun h => absurd h T.un, fun h => by omega⟩
  · refine ⟨fun hlx => ?_, fun h => by omega⟩
    refine absurd (first_done R hcl c T.ho hox T.ha hx (hcl x _ hox hlx) ?_) T.un
    rcases ht with ht | ht
    · exact .inr (.inl ⟨t, hdx, hasN_iff.2 ht⟩)
    · exact .inl ⟨t, ht, .inr hdx⟩

theorem Turn.slot (R : Reg P call own ops al S e soft) {listed : Array Bool} {j : Nat} {o : Oper} {ao : AOper} (T : Turn ops al listed j o ao) {m : Mem} {k : Nat} {w : World} {tmps : Array Value} (I : Inv P call own ops al S e B listed m k w tmps)
    {t : Nat} (ht : t ∈ looks o ao) : Rep m k ((S j).sl.getD t .top) (tmps.getD t undef) := by
  obtain ⟨i, hi, h1, h2⟩ := I.slot t
  rw [R.same2 (i := j) (j := i) (Nat.le_of_lt T.lt) hi (fun x ax hx hd => ((T.writers R I.closed (.inl ht) x ax hx hd).symm.trans (h1 x ax hx hd)))]
  exact h2

/-- what touches memory comes on the right side of what changes it -/
theorem Turn.mem (R : Reg P call own ops al S e soft) {listed : Array Bool} {j : Nat} {o : Oper} {ao : AOper} (T : Turn ops al listed j o ao)
    (hcl : ∀ (x : Nat) (o : Oper), ops[x]? = some o → lst listed x → ∀ e ∈ o.after.toList, Region.binds .any e = true → lst listed e.on) (hm : hardK soft j ao.op = true) {e' : Nat} (hj : j ≠ e') {ae : AOper} (he : al[e']? = some ae) (hef : ae.op.isEff = true) : (lst listed e' ↔ e' < j) := by
  have hel : e' < ops.size := by rw [← R.len]; exact (List.getElem?_eq_some_iff.1 he).1
  have hoe := Array.getElem?_eq_getElem hel
  rcases Nat.lt_trichotomy e' j with c | c | c
  · exact ⟨fun _ => c, fun _ => first_done R hcl c hoe T.ho he T.ha T.edge (.inr (.inr (.inl ⟨hef, hm⟩)))⟩
  · omega
  · exact ⟨fun h => absurd (first_done R hcl c T.ho hoe T.ha he (hcl e' _ hoe h) (.inr (.inr (.inr ⟨hm, hef⟩)))) T.un, fun h => by omega⟩


/-- its ids are nobody's yet -/
theorem Turn.ids (R : Reg P call own ops al S e soft) {listed : Array Bool} {j : Nat} {o : Oper} {ao : AOper} (T : Turn ops al listed j o ao) {m : Mem} {k : Nat} {w : World} {tmps : Array Value} (I : Inv P call own ops al S e B listed m k w tmps) :
    ∀ id, (S j).bl.length ≤ id → id < (S (j + 1)).bl.length → m.blk id = none := I.fresh1 j T.lt T.un

/-- where the one that changes a block is due, the ids behind are nobody's -/
theorem Turn.free (R : Reg P call own ops al S e soft) {listed : Array Bool} {j : Nat} {o : Oper} {ao : AOper} (T : Turn ops al listed j o ao) {m : Mem} {k : Nat} {w : World} {tmps : Array Value} (I : Inv P call own ops al S e B listed m k w tmps)
    (hef : ao.op.isEff = true) : ∀ id, (S j).bl.length ≤ id → m.blk id = none := by
  have hjs := T.lt
  have range : ∀ d, j + d ≤ ops.size → ∀ id, (S j).bl.length ≤ id → id < (S (j + d)).bl.length → m.blk id = none := by
    intro d
    induction d with
    | zero => intro _ id h1 h2; simp at h2; omega
    | succ d ih =>
      intro hle id h1 h2
      by_cases c : id < (S (j + d)).bl.length
      · exact ih (by omega) id h1 c
      · have hxl : j + d < al.length := by rw [R.len]; omega
        have hax := List.getElem?_eq_getElem hxl
        by_cases d0 : d = 0
        · subst d0
          exact I.fresh1 j hjs T.un id h1 (by simpa using h2)
        · refine I.fresh1 (j + d) (by omega) (fun hl => ?_) id (by omega) (by rw [show j + d + 1 = j + (d + 1) by omega]; exact h2)
          have hox := Array.getElem?_eq_getElem (show j + d < ops.size by omega)
          have hmem : hardK soft (j + d) al[j + d].op = true := by
            cases hm : hardK soft (j + d) al[j + d].op
            · have := R.nonhard (j + d) _ hax hm
              rw [show j + d + 1 = j + (d + 1) by omega] at this
              rw [this] at h2; omega
            · rfl
          exact T.un (first_done R I.closed (by omega) T.ho hox T.ha hax (I.closed _ _ hox hl) (.inr (.inr (.inl ⟨hef, hmem⟩))))
  have hfresh : ∀ id, (S j).bl.length ≤ id → m.blk id = none := fun id hid => by
    by_cases c : id < (S ops.size).bl.length
    · exact range (ops.size - j) (by omega) id hid (by rw [show j + (ops.size - j) = ops.size by omega]; exact c)
    · exact I.fresh2 id (by omega)
  exact hfresh

/-- where one that changes a block is due, those before it are done -/
theorem Turn.due (R : Reg P call own ops al S e soft) {listed : Array Bool} {j : Nat} {o : Oper} {ao : AOper} (T : Turn ops al listed j o ao)
    (hcl : ∀ (x : Nat) (o : Oper), ops[x]? = some o → lst listed x → ∀ e ∈ o.after.toList, Region.binds .any e = true → lst listed e.on) (hef : ao.op.isEff = true) {f : Nat}
    (f2 : ∀ (x : Nat) (ao : AOper), al[x]? = some ao → ao.op.isEff = true → (lst listed x ↔ x < f)) (f3 : f < ops.size → ∃ ao, al[f]? = some ao ∧ ao.op.isEff = true) : f = j := by
  have hjs := T.lt
  have hnj : ¬ j < f := fun h => T.un ((f2 j ao T.ha hef).2 h)
  rcases Nat.lt_trichotomy f j with c | c | c
  · exfalso
    obtain ⟨af, haf, hfe⟩ := f3 (by omega)
    have hof := Array.getElem?_eq_getElem (show f < ops.size by omega)
    have := first_done R hcl c hof T.ho haf T.ha T.edge (.inr (.inr (.inl ⟨hfe, hard_eff hef⟩)))
    have := (f2 f af haf hfe).1 this
    omega
  · exact c
  · omega

/-- behind an operation that changes no block -/
theorem Inv.next (R : Reg P call own ops al S e soft) {listed : Array Bool} {j : Nat} {o : Oper} {ao : AOper} (T : Turn ops al listed j o ao) {m m' : Mem} {k k' : Nat} {w w' : World} {a : Act} (I : Inv P call own ops al S e B listed m k w a.tmps)
    {p : PV} {v : Value} (hd : ao.dst = o.dst) (hsl : (S (j + 1)).sl = putP (S j).sl ao.dst p) (hk : Keeps k m m') (hkk : k ≤ k') (hp : Rep m' k' p v) (hf : FrzOk m' w') (hB : B ≤ w'.heap.size)
    (ho : ∃ f, f ≤ ops.size ∧ (∀ (x : Nat) (ao : AOper), al[x]? = some ao → ao.op.isEff = true → (lst (listed.setIfInBounds j true) x ↔ x < f)) ∧ (f < ops.size → ∃ ao, al[f]? = some ao ∧ ao.op.isEff = true) ∧ Owns B m' k' w' (S f).bl)
    (hbl : ∀ id, m'.blk id = m.blk id ∨ ((S j).bl.length ≤ id ∧ id < (S (j + 1)).bl.length)) : Inv P call own ops al S e B (listed.setIfInBounds j true) m' k' w' (a.put o.dst v).tmps := by
  have hjl : j < listed.size := by rw [I.lsize]; exact T.lt
  have hjs := T.lt
  refine ⟨by simp [I.lsize], fun x ox hx hl ed he hb => ?_, ?_, fun t => ?_, hf, hB, ho, fun x hx hl id h1 h2 => ?_, fun id hid => ?_⟩
  · rw [lst_set hjl] at hl ⊢
    rcases hl with hl | hl
    · exact .inl (I.closed x ox hx hl ed he hb)
    · subst hl
      rw [T.ho] at hx
      cases hx
      exact .inl (T.edge ed he hb)
  · cases o.dst <;> simp [Act.put, I.size]
  · by_cases hdt : o.dst = some t
    · refine ⟨j + 1, by omega, fun x ax hx hxd => ?_, ?_⟩
      · rw [lst_set hjl, T.writers R I.closed (.inr hdt) x ax hx hxd]
        omega
      · rw [hsl, hd, hdt]
        simp only [Act.put, putP]
        rw [Array.getD_eq_getD_getElem?, List.getD_eq_getElem?_getD]
        have hls : (S j).sl.length = (S 0).sl.length := by have := (R.mono 0 j (by omega)).2; simpa using this
        by_cases hlt : t < (S j).sl.length
        · rw [List.getElem?_set_self hlt, Array.getElem?_setIfInBounds_self_of_lt (by rw [I.size]; omega)]
          exact hp
        · rw [List.getElem?_eq_none (by simp; omega)]
          exact .top
    · obtain ⟨i, hi, h1, h2⟩ := I.slot t
      refine ⟨i, hi, fun x ax hx hxd => ?_, ?_⟩
      · rw [lst_set hjl, ← h1 x ax hx hxd]
        refine ⟨fun h => h.resolve_right (fun e => ?_), .inl⟩
        subst e
        rw [T.ha] at hx
        cases hx
        rw [hd] at hxd
        exact hdt hxd
      · have : (a.put o.dst v).tmps.getD t undef = a.tmps.getD t undef := by
          cases hdo : o.dst with
          | none => rfl
          | some d =>
            simp only [Act.put]
            rw [Array.getD_eq_getD_getElem?, Array.getD_eq_getD_getElem?, Array.getElem?_setIfInBounds_ne (fun e => hdt (by rw [hdo, e]))]
        rw [this]
        exact (h2.mono hk.mle).up hkk
  · rw [lst_set hjl] at hl
    have hl1 : ¬ lst listed x := fun h => hl (.inl h)
    have hne : x ≠ j := fun h => hl (.inr h)
    rcases hbl id with h | ⟨h3, h4⟩
    · rw [h]; exact I.fresh1 x hx hl1 id h1 h2
    · exfalso
      rcases Nat.lt_or_gt_of_ne hne with c | c
      · have := (R.mono (x + 1) (j - (x + 1)) (by omega)).1
        rw [show x + 1 + (j - (x + 1)) = j by omega] at this
        omega
      · have := (R.mono (j + 1) (x - (j + 1)) (by omega)).1
        rw [show j + 1 + (x - (j + 1)) = x by omega] at this
        omega
  · rcases hbl id with h | ⟨h3, h4⟩
    · rw [h]; exact I.fresh2 id hid
    · have := (R.mono (j + 1) (ops.size - (j + 1)) (by omega)).1
      rw [show j + 1 + (ops.size - (j + 1)) = ops.size by omega] at this
      omega

theorem evOne_cases {s s' : St} {ao : AOper} (h : evOne call s ao = some s') :
    (evOp call s ao = some s' ∧ (ao.guard = none ∨ ∃ sl want b, ao.guard = some (sl, want) ∧ s.sl.getD sl .top = .bool b ∧ b = want)) ∨
    (∃ sl want, ao.guard = some (sl, want) ∧ ((∃ b, s.sl.getD sl .top = .bool b ∧ b ≠ want) ∨ ∃ cs, s.sl.getD sl .top = .v (.tuple cs)) ∧ s' = ⟨putP s.sl ao.dst (.v (.tuple #[])), s.bl⟩) := by
  unfold evOne at h
  split at h
  · rename_i hg; exact .inl ⟨h, .inl hg⟩
  · rename_i s0 want hg
    split at h
    · rename_i b hb
      split at h
      · rename_i hbw; exact .inl ⟨h, .inr ⟨s0, want, b, hg, hb, hbw⟩⟩
      · rename_i hbw; cases h; exact .inr ⟨s0, want, hg, .inl ⟨b, hb, hbw⟩, rfl⟩
    · rename_i cs hb; cases h; exact .inr ⟨s0, want, hg, .inr ⟨cs, hb⟩, rfl⟩
    · cases h

/-- one operation, in whatever order -/
theorem turn_step (hc : CallOk P call) (R : Reg P call own ops al S e soft) {listed : Array Bool} {j : Nat} {o : Oper} {ao : AOper} (T : Turn ops al listed j o ao) {m : Mem} {k : Nat} {w : World} {a : Act} (I : Inv P call own ops al S e B listed m k w a.tmps) {N : Nat} (hNk : N ≤ k)
    {Q : Exit → Act → World → Prop} {K : Act → World → Prop}
    (hn : ∀ m' k' w' a', Inv P call own ops al S e B (listed.setIfInBounds j true) m' k' w' a'.tmps → Below B w w' → Grow B N m m' → a'.defers = a.defers → N ≤ k' → K a' w') :
    wpOp P ops Q j K a w := by
  obtain ⟨ao', hao', hdig⟩ := R.op j o T.ho
  rw [T.ha] at hao'
  cases hao'
  obtain ⟨hd1, hd2, hd3⟩ := digOper_spec hdig
  obtain ⟨w1, w2, w3⟩ := wanted_iff (tmps := a.tmps) hdig
  have hstep := R.step j ao T.ha
  have hst := evOne_step hstep
  have hjl : j < listed.size := by rw [I.lsize]; exact T.lt
  have hjs := T.lt
  have hput : ∀ v, (a.put o.dst v).defers = a.defers := fun v => by cases o.dst <;> rfl
  have guardIn : ∀ s want, ao.guard = some (s, want) → s ∈ looks o ao := fun s want hg => by
    unfold looks; rw [hg]; simp
  have opIn : ∀ t, Operand.tmp t ∈ o.op.operands → t ∈ looks o ao := fun t ht => by
    unfold looks
    exact List.mem_append_left _ (List.mem_filterMap.2 ⟨.tmp t, by simpa using ht, rfl⟩)
  have hops : ∀ t, Operand.tmp t ∈ o.op.operands → Rep m k ((S j).sl.getD t .top) (a.tmps.getD t undef) := fun t ht => T.slot R I (opIn t ht)
  unfold wpOp
  rw [T.ho]
  simp only
  rcases evOne_cases hstep with ⟨hop, hwant⟩ | ⟨s0, want, hg, hbb, hs'⟩
  · -- it is wanted
    have hw : Region.wanted o (yielded ops a.tmps) = true := by
      rcases hwant with hg | ⟨s0, want, b, hg, hb, hbw⟩
      · exact w1 hg
      · have rb := T.slot R I (guardIn s0 want hg)
        rw [hb] at rb
        rw [w2 s0 want b hg (bool_inv rb)]
        simpa using hbw
    rw [if_pos hw]
    refine .inl ?_
    unfold evOp at hop
    split at hop
    · -- the one that changes a block
      rename_i hef
      obtain ⟨f, f1, f2, f3, f4⟩ := I.own
      have hfj := T.due R I.closed hef f2 f3
      rw [hfj] at f2 f4
      split at hop
      · rename_i p bl' hev
        have hS : S (j + 1) = ⟨putP (S j).sl ao.dst p, bl'⟩ := by injection hop with hop; exact hop.symm
        have howns := f4
        have hfresh := T.free R I hef
        refine eff_sound hc o ao.op B k m w (S j).sl (S j).bl bl' a p K Q hd1 hev hops ⟨I.frz, howns, I.hB, hfresh⟩ (fun v m' w' k' hout => hn m' k' w' _ ?_ hout.bel ⟨hout.le.cell, hout.cel, fun b i hb hi => hout.le.blk b i (Nat.lt_of_lt_of_le hb hNk) hi⟩ (hput v) (Nat.le_trans hNk hout.kk))
        -- the blocks behind it
        have hbl' : (S (j + 1)).bl = bl' := by rw [hS]
        obtain ⟨f', n1, n2, n3, n4⟩ := R.nextE (ops.size - (j + 1)) (j + 1) (by omega)
        obtain ⟨ns, hns⟩ := R.pre (j + 1) (f' - (j + 1)) (by omega) (fun x ao h1 h2 => n3 x ao h1 (by omega))
        rw [show j + 1 + (f' - (j + 1)) = f' by omega, hbl'] at hns
        have hown2 : Owns B m' k' w' (S f').bl := by rw [hns]; exact hout.own.more hout.fresh
        have hjl1 : lst (listed.setIfInBounds j true) j := (lst_set hjl).2 (.inr rfl)
        refine ⟨by simp [I.lsize], fun x ox hx hl ed he hb => ?_, ?_, fun t => ?_, hout.frz, Nat.le_trans I.hB hout.bel.size, ⟨f', n2, fun x ax hx hxe => ?_, n4, hown2⟩, fun x hx hl id h1 h2 => ?_, fun id hid => ?_⟩
        · rw [lst_set hjl] at hl ⊢
          rcases hl with hl | hl
          · exact .inl (I.closed x ox hx hl ed he hb)
          · subst hl
            rw [T.ho] at hx
            cases hx
            exact .inl (T.edge ed he hb)
        · cases o.dst <;> simp [Act.put, I.size]
        · by_cases hdt : o.dst = some t
          · refine ⟨j + 1, by omega, fun x ax hx hxd => ?_, ?_⟩
            · rw [lst_set hjl, T.writers R I.closed (.inr hdt) x ax hx hxd]
              omega
            · rw [hS, hd2, hdt]
              simp only [Act.put, putP]
              rw [Array.getD_eq_getD_getElem?, List.getD_eq_getElem?_getD]
              have hls : (S j).sl.length = (S 0).sl.length := by have := (R.mono 0 j (by omega)).2; simpa using this
              by_cases hlt : t < (S j).sl.length
              · rw [List.getElem?_set_self hlt, Array.getElem?_setIfInBounds_self_of_lt (by rw [I.size]; omega)]
                exact hout.rep
              · rw [List.getElem?_eq_none (by simp; omega)]
                exact .top
          · obtain ⟨i, hi, h1, h2⟩ := I.slot t
            refine ⟨i, hi, fun x ax hx hxd => ?_, ?_⟩
            · rw [lst_set hjl, ← h1 x ax hx hxd]
              refine ⟨fun h => h.resolve_right (fun e => ?_), .inl⟩
              subst e
              rw [T.ha] at hx
              cases hx
              rw [hd2] at hxd
              exact hdt hxd
            · have : (a.put o.dst v).tmps.getD t undef = a.tmps.getD t undef := by
                cases hdo : o.dst with
                | none => rfl
                | some d =>
                  simp only [Act.put]
                  rw [Array.getD_eq_getD_getElem?, Array.getD_eq_getD_getElem?, Array.getElem?_setIfInBounds_ne (fun e => hdt (by rw [hdo, e]))]
              rw [this]
              exact (h2.mono hout.le).up hout.kk
        · rw [lst_set hjl]
          constructor
          · rintro (h | h)
            · have := (f2 x ax hx hxe).1 h; omega
            · omega
          · intro h
            rcases Nat.lt_trichotomy x j with c | c | c
            · exact .inl ((f2 x ax hx hxe).2 c)
            · exact .inr c
            · have := n3 x ax (by omega) h hx
              rw [hxe] at this; cases this
        · rw [lst_set hjl] at hl
          have hl1 : ¬ lst listed x := fun h => hl (.inl h)
          have hne : x ≠ j := fun h => hl (.inr h)
          rcases Nat.lt_or_gt_of_ne hne with c | c
          · -- an operation before it that is not done touches no memory
            exfalso
            have hxl : x < al.length := by rw [R.len]; exact hx
            have hax := List.getElem?_eq_getElem hxl
            have hox := Array.getElem?_eq_getElem hx
            have hmem : hardK soft x al[x].op = true := by
              cases hm : hardK soft x al[x].op
              · have := R.nonhard x _ hax hm
                rw [this] at h2; omega
              · rfl
            exact hl1 (first_done R I.closed c hox T.ho hax T.ha T.edge (.inr (.inr (.inr ⟨hmem, hef⟩))))
          · refine hout.fresh id ?_
            have := (R.mono (j + 1) (x - (j + 1)) (by omega)).1
            rw [show j + 1 + (x - (j + 1)) = x by omega, hbl'] at this
            omega
        · refine hout.fresh id ?_
          have := (R.mono (j + 1) (ops.size - (j + 1)) (by omega)).1
          rw [show j + 1 + (ops.size - (j + 1)) = ops.size by omega, hbl'] at this
          omega
      · cases hop
    · -- one that changes none
      rename_i hnef
      have hnef' : ao.op.isEff = false := by simpa using hnef
      split at hop
      · rename_i p ns hev
        have hS : S (j + 1) = ⟨putP (S j).sl ao.dst p, (S j).bl ++ ns.map some⟩ := by injection hop with hop; exact hop.symm
        have hSl : (S (j + 1)).bl = (S j).bl ++ ns.map some := by rw [hS]
        -- the blocks that are there
        obtain ⟨f, f1, f2, f3, f4⟩ := I.own
        have hne : ∀ (x : Nat) (ax : AOper), al[x]? = some ax → ax.op.isEff = true → j ≠ x := fun x ax hx hxe h => by
          subst h
          rw [T.ha] at hx
          cases hx
          rw [hnef'] at hxe; cases hxe
        have hmst : ∃ BL : Blks, BL = (S f).bl ∧ Owns B m k w BL ∧ (∀ m' k' w', Owns B m' k' w' BL → Owns B m' k' w' (S f).bl) ∧
            (hardK soft j ao.op = true → ∀ (x : Nat) (y : Option Blk), ((S j).bl ++ ns.map some)[x]? = some y → BL[x]? = some y) := by
          refine ⟨(S f).bl, rfl, f4, fun _ _ _ h => h, fun hm x y hx => ?_⟩
          have hjf : j < f := by
            rcases Nat.lt_trichotomy f j with c | c | c
            · exfalso
              obtain ⟨af, haf, hfe⟩ := f3 (by omega)
              have := (f2 f af haf hfe).1 ((T.mem R I.closed hm (hne f af haf hfe) haf hfe).2 c)
              omega
            · exfalso
              obtain ⟨af, haf, hfe⟩ := f3 (by omega)
              exact hne f af haf hfe c.symm
            · exact c
          obtain ⟨ns2, h3⟩ := R.pre (j + 1) (f - (j + 1)) (by omega) (fun x ax h1 h2 hax => by
            cases hxe : ax.op.isEff
            · rfl
            · exfalso
              have hl := (f2 x ax hax hxe).2 (by omega)
              have := (T.mem R I.closed hm (hne x ax hax hxe) hax hxe).1 hl
              omega)
          rw [show j + 1 + (f - (j + 1)) = f by omega] at h3
          rw [h3, hSl, List.getElem?_append_left (List.getElem?_eq_some_iff.1 hx).1]
          exact hx
        have hf2' : ∀ (x : Nat) (ax : AOper), al[x]? = some ax → ax.op.isEff = true → (lst (listed.setIfInBounds j true) x ↔ x < f) := fun x ax hx hxe => by
          rw [lst_set hjl, ← f2 x ax hx hxe]
          exact ⟨fun h => h.resolve_right (fun h => hne x ax hx hxe h.symm), .inl⟩
        obtain ⟨BL, hBL, hown, hback, hsub⟩ := hmst
        have hex : ∃ bl0 : Blks, evPur call (S j).sl bl0 ao.op = some (p, ns) ∧ (∀ (x : Nat) (y : Option Blk), (bl0 ++ ns.map some)[x]? = some y → BL[x]? = some y) ∧ (ns = [] ∨ bl0 = (S j).bl) := by
          cases hm : memK ao.op
          · obtain ⟨h1, h2⟩ := evPur_non hm hev
            exact ⟨BL, h2 BL, fun x y hx => by rw [h1] at hx; simpa using hx, .inl h1⟩
          · cases hh : hardK soft j ao.op
            · unfold hardK at hh
              rw [hm] at hh
              simp only [Bool.true_and, Bool.or_eq_false_iff, Bool.not_eq_false'] at hh
              obtain ⟨_, p', h1, h2⟩ := R.soft j ao f T.ha hh.1 hh.2 (by rw [R.len]; exact f1)
              rw [h1] at hev
              cases hev
              exact ⟨BL, by rw [hBL]; exact h2, fun x y hx => by simpa using hx, .inl rfl⟩
            · exact ⟨(S j).bl, hev, hsub hh, .inr rfl⟩
        obtain ⟨bl0, hev0, hsub0, hor⟩ := hex
        have hids := T.ids R I
        have hnl : (S (j + 1)).bl.length = (S j).bl.length + ns.length := by rw [hSl]; simp
        refine pur_sound hc o ao.op B k m w (S j).sl bl0 BL a p ns K Q hd1 hev0 hops ⟨I.frz, hown, I.hB, hsub0, fun jj hjj => ?_⟩
          (fun v m' w' k' hout => hn m' k' w' _ (Inv.next R T I hd2 (by rw [hS]) hout.keep hout.kk hout.rep hout.frz (Nat.le_trans I.hB hout.bel.size) ⟨f, f1, hf2', f3, hback m' k' w' hout.own⟩ (fun id => ?_)) (hout.bel.mono I.hB) ⟨hout.keep.cell, fun b o v hv => ?_, fun b i _ hi => ⟨i, hout.keep.blk b i hi, .inl rfl⟩⟩ (hput v) (Nat.le_trans hNk hout.kk))
        · rcases hor with h | h
          · rw [h] at hjj; simp at hjj
          · rw [h]; exact hids _ (by omega) (by omega)
        · rcases hout.blk id with h | h
          · exact .inl h
          · rcases hor with h2 | h2
            · rw [h2] at h; simp at h; omega
            · rw [h2] at h; right; omega
        · rcases hout.cel b o v hv with h | h
          · exact .inl h
          · exact .inr (Nat.le_trans I.hB h)
      · cases hop
  · -- it is not wanted
    have rb := T.slot R I (guardIn s0 want hg)
    have hw : Region.wanted o (yielded ops a.tmps) = false := by
      rcases hbb with ⟨b, hb, hbw⟩ | ⟨cs, hb⟩
      · rw [hb] at rb
        rw [w2 s0 want b hg (bool_inv rb)]
        simpa using hbw
      · rw [hb] at rb
        exact w3 s0 want cs hg (v_inv rb)
    rw [if_neg (by rw [hw]; simp)]
    have hSb : (S (j + 1)).bl = (S j).bl := by rw [hs']
    obtain ⟨f, f1, f2, f3, f4⟩ := I.own
    refine hn m k w _ (Inv.next (p := .v (.tuple #[])) (v := undef) R T I hd2 (by rw [hs']) (Keeps.refl k m) (Nat.le_refl _) (.v (x := undef)) I.frz I.hB ?_ (fun id => .inl rfl)) (Below.refl _ _) (Grow.refl _ _ _) (hput _) hNk
    cases hef : ao.op.isEff
    · refine ⟨f, f1, fun x ax hx hxe => ?_, f3, f4⟩
      rw [lst_set hjl, ← f2 x ax hx hxe]
      refine ⟨fun h => h.resolve_right (fun h => ?_), .inl⟩
      subst h
      rw [T.ha] at hx
      cases hx
      rw [hef] at hxe; cases hxe
    · have hfj := T.due R I.closed hef f2 f3
      rw [hfj] at f2 f4
      obtain ⟨f', n1, n2, n3, n4⟩ := R.nextE (ops.size - (j + 1)) (j + 1) (by omega)
      obtain ⟨ns, hns⟩ := R.pre (j + 1) (f' - (j + 1)) (by omega) (fun x ao h1 h2 => n3 x ao h1 (by omega))
      rw [show j + 1 + (f' - (j + 1)) = f' by omega, hSb] at hns
      refine ⟨f', n2, fun x ax hx hxe => ?_, n4, by rw [hns]; exact f4.more (T.free R I hef)⟩
      rw [lst_set hjl]
      constructor
      · rintro (h | h)
        · have := (f2 x ax hx hxe).1 h; omega
        · omega
      · intro h
        rcases Nat.lt_trichotomy x j with c | c | c
        · exact .inl ((f2 x ax hx hxe).2 c)
        · exact .inr c
        · have := n3 x ax (by omega) h hx
          rw [hxe] at this; cases this

end
end
end Go.Proofs.Ytlnaibkpmklkiaa
