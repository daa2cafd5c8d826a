/- The evaluator: a pure reading of the code, and that it is right; several texts in one. -/
import Derived.Test.YtidkdiooempkpaaDoorGb
import Derived.Deep.Slices
import Derived.WalkKit
import Derived.ProofKit
import Derived.OpenShut
import Derived.ShutString
import Derived.ChangeOld
/- A region that draws its order ends as in the text's order. -/
namespace Go.Proofs.YtidkdiooempkpaaDoor
open Go Go.RowKit
set_option linter.unusedSectionVars false
variable [Bs]
set_option linter.unusedVariables false
set_option linter.unusedSimpArgs false

section
variable {P : Program} {call : Cl} {own : List Nat}

theorem digOps_get {ops : Array Oper} : ∀ {l : List Oper} {al : List AOper}, digOps P own ops l = some al → al.length = l.length ∧ ∀ (i : Nat) (o : Oper), l[i]? = some o → ∃ ao, al[i]? = some ao ∧ digOper P own ops o = some ao
  | [], al, h => by simp [digOps] at h; subst h; exact ⟨rfl, fun i o hi => by simp at hi⟩
  | o :: l, al, h => by
    simp only [digOps] at h
    split at h
    · rename_i ao al' h1 h2
      cases h
      obtain ⟨e1, e2⟩ := digOps_get h2
      refine ⟨by simp [e1], fun i o' hi => ?_⟩
      cases i with
      | zero => simp at hi; subst hi; exact ⟨ao, rfl, h1⟩
      | succ i => simpa using e2 i o' (by simpa using hi)
    · cases h

/-- the facts of a region, with the text's order laid down -/
structure Reg (P : Program) (call : Cl) (own : List Nat) (ops : Array Oper) (al : List AOper) (S : Nat → St) (e : Nat) (soft : List Nat) : Prop where
  len : al.length = ops.size
  op : ∀ (i : Nat) (o : Oper), ops[i]? = some o → ∃ ao, al[i]? = some ao ∧ digOper P own ops o = some ao
  step : ∀ (i : Nat) (ao : AOper), al[i]? = some ao → evOne call (S i) ao = some (S (i + 1))
  pair : ∀ (p q : Nat) (o1 o2 : Oper) (a1 a2 : AOper), p < q → ops[p]? = some o1 → ops[q]? = some o2 → al[p]? = some a1 → al[q]? = some a2 → ∃ b, (befAll ops.toList [])[q]? = some b ∧ pairOk soft b p q (o1, a1) (o2, a2) = true
  soft : ∀ (j : Nat) (ao : AOper) (f : Nat), al[j]? = some ao → ao.op.isEff = false → hasN j soft = true → f ≤ al.length → ao.guard = none ∧ ∃ p, evPur call (S j).sl (S j).bl ao.op = some (p, []) ∧ evPur call (S j).sl (S f).bl ao.op = some (p, [])
  edge : ∀ (i : Nat) (o : Oper), ops[i]? = some o → ∀ e ∈ o.after.toList, Region.binds .any e = true → e.on < i

theorem befAll_len : ∀ (l : List Oper) (acc : List Nat), (befAll l acc).length = acc.length + l.length
  | [], acc => by simp [befAll]
  | o :: l, acc => by simp [befAll, befAll_len l]; omega

section
variable {ops : Array Oper} {al : List AOper} {S : Nat → St} {e : Nat} {soft : List Nat} (R : Reg P call own ops al S e soft)
include R

theorem Reg.mono (i : Nat) : ∀ d, i + d ≤ ops.size → (S i).bl.length ≤ (S (i + d)).bl.length ∧ (S (i + d)).sl.length = (S i).sl.length
  | 0, _ => ⟨Nat.le_refl _, rfl⟩
  | d + 1, h => by
    obtain ⟨h1, h2⟩ := Reg.mono i d (by omega)
    have hlt : i + d < al.length := by rw [R.len]; omega
    have st := evOne_step (R.step (i + d) _ (List.getElem?_eq_getElem hlt))
    exact ⟨Nat.le_trans h1 st.ble, st.len.trans h2⟩

theorem Reg.pre (i : Nat) : ∀ d, i + d ≤ ops.size → (∀ (x : Nat) (ao : AOper), i ≤ x → x < i + d → al[x]? = some ao → ao.op.isEff = false) → ∃ ns : List Blk, (S (i + d)).bl = (S i).bl ++ ns.map some
  | 0, _, _ => ⟨[], by simp⟩
  | d + 1, h, he => by
    obtain ⟨ns, h1⟩ := Reg.pre i d (by omega) (fun x ao h1 h2 => he x ao h1 (by omega))
    have hlt : i + d < al.length := by rw [R.len]; omega
    have st := evOne_step (R.step (i + d) _ (List.getElem?_eq_getElem hlt))
    have hne : al[i + d].op.isEff = false := he _ _ (by omega) (by omega) (List.getElem?_eq_getElem hlt)
    obtain ⟨ns2, h2⟩ := st.pre hne
    exact ⟨ns ++ ns2, by rw [show i + (d + 1) = i + d + 1 by omega, h2, h1]; simp⟩

/-- the next operation that changes a block -/
theorem Reg.nextE : ∀ (d i : Nat), i + d = ops.size → ∃ f, i ≤ f ∧ f ≤ ops.size ∧ (∀ (x : Nat) (ao : AOper), i ≤ x → x < f → al[x]? = some ao → ao.op.isEff = false) ∧ (f < ops.size → ∃ ao, al[f]? = some ao ∧ ao.op.isEff = true)
  | 0, i, h => ⟨i, Nat.le_refl _, by omega, fun x ao h1 h2 => by omega, fun h2 => by omega⟩
  | d + 1, i, h => by
    have hlt : i < al.length := by rw [R.len]; omega
    cases hx : al[i].op.isEff
    · obtain ⟨f, h1, h2, h3, h4⟩ := Reg.nextE d (i + 1) (by omega)
      refine ⟨f, by omega, h2, fun x ao hx1 hx2 ha => ?_, h4⟩
      by_cases hxi : x = i
      · subst hxi
        rw [List.getElem?_eq_getElem hlt] at ha
        cases ha
        exact hx
      · exact h3 x ao (by omega) hx2 ha
    · exact ⟨i, Nat.le_refl _, by omega, fun x ao h1 h2 => by omega, fun _ => ⟨_, List.getElem?_eq_getElem hlt, hx⟩⟩

theorem Reg.same (t : Nat) (i : Nat) : ∀ d, i + d ≤ ops.size → (∀ (x : Nat) (ao : AOper), i ≤ x → x < i + d → al[x]? = some ao → ao.dst ≠ some t) → (S (i + d)).sl.getD t .top = (S i).sl.getD t .top
  | 0, _, _ => rfl
  | d + 1, h, hx => by
    have h1 := Reg.same t i d (by omega) (fun x ao h1 h2 => hx x ao h1 (by omega))
    have hlt : i + d < al.length := by rw [R.len]; omega
    have st := evOne_step (R.step (i + d) _ (List.getElem?_eq_getElem hlt))
    exact (st.oth t (hx _ _ (by omega) (by omega) (List.getElem?_eq_getElem hlt))).trans h1

/-- what may change places makes nothing -/
theorem Reg.nonhard (x : Nat) (ax : AOper) (hx : al[x]? = some ax) (hh : hardK soft x ax.op = false) : (S (x + 1)).bl = (S x).bl := by
  have hst := R.step x ax hx
  cases hm : memK ax.op
  · exact (evOne_step hst).non hm
  · unfold hardK at hh
    rw [hm] at hh
    simp only [Bool.true_and, Bool.or_eq_false_iff, Bool.not_eq_false'] at hh
    obtain ⟨hg, p, h1, _⟩ := R.soft x ax x hx hh.1 hh.2 (Nat.le_of_lt (List.getElem?_eq_some_iff.1 hx).1)
    unfold evOne at hst
    rw [hg] at hst
    simp only [evOp, hh.1, Bool.false_eq_true, if_false, h1] at hst
    have := (Option.some.inj hst).symm
    rw [this]
    simp

/-- two places between which nobody writes the slot -/
theorem Reg.same2 {t i j : Nat} (hi : i ≤ ops.size) (hj : j ≤ ops.size) (h : ∀ (x : Nat) (ao : AOper), al[x]? = some ao → ao.dst = some t → (x < i ↔ x < j)) : (S i).sl.getD t .top = (S j).sl.getD t .top := by
  rcases Nat.le_total i j with c | c
  · have := R.same t i (j - i) (by omega) (fun x ao h1 h2 ha hd => by have := h x ao ha hd; omega)
    rw [show i + (j - i) = j by omega] at this
    exact this.symm
  · have := R.same t j (i - j) (by omega) (fun x ao h1 h2 ha hd => by have := h x ao ha hd; omega)
    rw [show j + (i - j) = i by omega] at this
    exact this

end

def lst (listed : Array Bool) (x : Nat) : Prop := listed.getD x false = true

/-- what holds when some operations are done -/
structure Inv (P : Program) (call : Cl) (own : List Nat) (ops : Array Oper) (al : List AOper) (S : Nat → St) (e B : Nat) (listed : Array Bool) (m : Mem) (k : Nat) (w : World) (tmps : Array Value) : Prop where
  lsize : listed.size = ops.size
  closed : ∀ (x : Nat) (o : Oper), ops[x]? = some o → lst listed x → ∀ e ∈ o.after.toList, Region.binds .any e = true → lst listed e.on
  size : tmps.size = (S 0).sl.length
  slot : ∀ t, ∃ i, i ≤ ops.size ∧ (∀ (x : Nat) (ao : AOper), al[x]? = some ao → ao.dst = some t → (lst listed x ↔ x < i)) ∧ Rep m k ((S i).sl.getD t .top) (tmps.getD t undef)
  frz : FrzOk m w
  hB : B ≤ w.heap.size
  own : ∃ f, f ≤ ops.size ∧ (∀ (x : Nat) (ao : AOper), al[x]? = some ao → ao.op.isEff = true → (lst listed x ↔ x < f)) ∧ (f < ops.size → ∃ ao, al[f]? = some ao ∧ ao.op.isEff = true) ∧ Owns B m k w (S f).bl
  fresh1 : ∀ x, x < ops.size → ¬ lst listed x → ∀ id, (S x).bl.length ≤ id → id < (S (x + 1)).bl.length → m.blk id = none
  fresh2 : ∀ id, (S ops.size).bl.length ≤ id → m.blk id = none

theorem lst_set {listed : Array Bool} {i x : Nat} (hi : i < listed.size) : lst (listed.setIfInBounds i true) x ↔ lst listed x ∨ x = i := by
  unfold lst
  by_cases e : i = x
  · subst e; simp [hi]
  · rw [getD_set_ne false e]
    constructor
    · exact .inl
    · rintro (h | h)
      · exact h
      · exact absurd h.symm e

section
variable {ops : Array Oper} {al : List AOper} {S : Nat → St} {e B : Nat} {soft : List Nat}

/-- of two operations that must not change places, the earlier one comes first -/
theorem first_done (R : Reg P call own ops al S e soft) {listed : Array Bool} {p q : Nat} {o1 o2 : Oper} {a1 a2 : AOper} (hcl : ∀ (x : Nat) (o : Oper), ops[x]? = some o → lst listed x → ∀ e ∈ o.after.toList, Region.binds .any e = true → lst listed e.on)
    (hpq : p < q) (h1 : ops[p]? = some o1) (h2 : ops[q]? = some o2) (h3 : al[p]? = some a1) (h4 : al[q]? = some a2)
    (hq : ∀ e ∈ o2.after.toList, Region.binds .any e = true → lst listed e.on)
    (hc : (∃ d, o1.dst = some d ∧ (hasN d (looks o2 a2) = true ∨ o2.dst = some d)) ∨ (∃ d, o2.dst = some d ∧ hasN d (looks o1 a1) = true) ∨ (a1.op.isEff = true ∧ hardK soft q a2.op = true) ∨ (hardK soft p a1.op = true ∧ a2.op.isEff = true)) : lst listed p := by
  obtain ⟨b, hb, hp⟩ := R.pair p q o1 o2 a1 a2 hpq h1 h2 h3 h4
  unfold pairOk at hp
  rw [Bool.or_eq_true] at hp
  rcases hp with hp | hp
  · exact befAll_spec (G := lst listed) (all := ops.toList) (fun x o hx hG => hcl x o (by simpa using hx) hG) ops.toList [] [] rfl rfl (fun x o b _ hb => by simp at hb) q o2 b (by simpa using h2) hb hq p hp
  · exfalso
    simp only [Bool.and_eq_true, Bool.not_eq_true', Bool.and_eq_false_iff] at hp
    obtain ⟨⟨⟨g1, g2⟩, g3⟩, g4⟩ := hp
    rcases hc with ⟨d, hd, hc⟩ | ⟨d, hd, hc⟩ | ⟨c1, c2⟩ | ⟨c1, c2⟩
    · rw [hd] at g1
      simp only [Bool.and_eq_true, Bool.not_eq_true'] at g1
      rcases hc with hc | hc
      · rw [hc] at g1; exact absurd g1.1 (by simp)
      · rw [hc] at g1; simp at g1
    · rw [hd] at g2
      simp only [Bool.not_eq_true'] at g2
      rw [hc] at g2; cases g2
    · rcases g3 with g3 | g3
      · rw [c1] at g3; cases g3
      · rw [c2] at g3; cases g3
    · rcases g4 with g4 | g4
      · rw [c1] at g4; cases g4
      · rw [c2] at g4; cases g4

theorem hasN_iff {b : Nat} : ∀ {l : List Nat}, hasN b l = true ↔ b ∈ l
  | [] => by simp [hasN]
  | c :: r => by
    simp only [hasN, Bool.or_eq_true, List.mem_cons, hasN_iff (l := r), Nat.beq_eq]

/-- an operation whose turn it may be -/
structure Turn (ops : Array Oper) (al : List AOper) (listed : Array Bool) (j : Nat) (o : Oper) (ao : AOper) : Prop where
  ho : ops[j]? = some o
  ha : al[j]? = some ao
  un : ¬ lst listed j
  edge : ∀ e ∈ o.after.toList, Region.binds .any e = true → lst listed e.on

theorem Turn.lt {listed : Array Bool} {j : Nat} {o : Oper} {ao : AOper} (T : Turn ops al listed j o ao) : j < ops.size := (Array.getElem?_eq_some_iff.1 T.ho).1

/-- a slot that it looks at or writes: its writers before it are done, those behind it are not -/
theorem Turn.writers (R : Reg P call own ops al S e soft) {listed : Array Bool} {j : Nat} {o : Oper} {ao : AOper} (T : Turn ops al listed j o ao)
    (hcl : ∀ (x : Nat) (o : Oper), ops[x]? = some o → lst listed x → ∀ e ∈ o.after.toList, Region.binds .any e = true → lst listed e.on)
    {t : Nat} (ht : t ∈ looks o ao ∨ o.dst = some t) (x : Nat) (ax : AOper) (hx : al[x]? = some ax) (hd : ax.dst = some t) : (lst listed x ↔ x < j) := by
  have hxl : x < ops.size := by rw [← R.len]; exact (List.getElem?_eq_some_iff.1 hx).1
  have hox := Array.getElem?_eq_getElem hxl
  obtain ⟨ax', hax', hdig⟩ := R.op x _ hox
  rw [hx] at hax'
  cases hax'
  have hdx : ops[x].dst = some t := by rw [← (digOper_spec hdig).2.1]; exact hd
  rcases Nat.lt_trichotomy x j with c | c | c
  · refine ⟨fun _ => c, fun _ => first_done R hcl c hox T.ho hx T.ha T.edge (.inl ⟨t, hdx, ?_⟩)⟩
    rcases ht with ht | ht
    · exact .inl (hasN_iff.2 ht)
    · exact .inr ht
  · subst c
    exact ⟨fun h => absurd h T.un, fun h => by omega⟩
  · refine ⟨fun hlx => ?_, fun h => by omega⟩
    refine absurd (first_done R hcl c T.ho hox T.ha hx (hcl x _ hox hlx) ?_) T.un
    rcases ht with ht | ht
    · exact .inr (.inl ⟨t, hdx, hasN_iff.2 ht⟩)
    · exact .inl ⟨t, ht, .inr hdx⟩

theorem Turn.slot (R : Reg P call own ops al S e soft) {listed : Array Bool} {j : Nat} {o : Oper} {ao : AOper} (T : Turn ops al listed j o ao) {m : Mem} {k : Nat} {w : World} {tmps : Array Value} (I : Inv P call own ops al S e B listed m k w tmps)
    {t : Nat} (ht : t ∈ looks o ao) : Rep m k ((S j).sl.getD t .top) (tmps.getD t undef) := by
  obtain ⟨i, hi, h1, h2⟩ := I.slot t
  rw [R.same2 (i := j) (j := i) (Nat.le_of_lt T.lt) hi (fun x ax hx hd => ((T.writers R I.closed (.inl ht) x ax hx hd).symm.trans (h1 x ax hx hd)))]
  exact h2

/-- what touches memory comes on the right side of what changes it -/
theorem Turn.mem (R : Reg P call own ops al S e soft) {listed : Array Bool} {j : Nat} {o : Oper} {ao : AOper} (T : Turn ops al listed j o ao)
    (hcl : ∀ (x : Nat) (o : Oper), ops[x]? = some o → lst listed x → ∀ e ∈ o.after.toList, Region.binds .any e = true → lst listed e.on) (hm : hardK soft j ao.op = true) {e' : Nat} (hj : j ≠ e') {ae : AOper} (he : al[e']? = some ae) (hef : ae.op.isEff = true) : (lst listed e' ↔ e' < j) := by
  have hel : e' < ops.size := by rw [← R.len]; exact (List.getElem?_eq_some_iff.1 he).1
  have hoe := Array.getElem?_eq_getElem hel
  rcases Nat.lt_trichotomy e' j with c | c | c
  · exact ⟨fun _ => c, fun _ => first_done R hcl c hoe T.ho he T.ha T.edge (.inr (.inr (.inl ⟨hef, hm⟩)))⟩
  · omega
  · exact ⟨fun h => absurd (first_done R hcl c T.ho hoe T.ha he (hcl e' _ hoe h) (.inr (.inr (.inr ⟨hm, hef⟩)))) T.un, fun h => by omega⟩


/-- its ids are nobody's yet -/
theorem Turn.ids (R : Reg P call own ops al S e soft) {listed : Array Bool} {j : Nat} {o : Oper} {ao : AOper} (T : Turn ops al listed j o ao) {m : Mem} {k : Nat} {w : World} {tmps : Array Value} (I : Inv P call own ops al S e B listed m k w tmps) :
    ∀ id, (S j).bl.length ≤ id → id < (S (j + 1)).bl.length → m.blk id = none := I.fresh1 j T.lt T.un

/-- where the one that changes a block is due, the ids behind are nobody's -/
theorem Turn.free (R : Reg P call own ops al S e soft) {listed : Array Bool} {j : Nat} {o : Oper} {ao : AOper} (T : Turn ops al listed j o ao) {m : Mem} {k : Nat} {w : World} {tmps : Array Value} (I : Inv P call own ops al S e B listed m k w tmps)
    (hef : ao.op.isEff = true) : ∀ id, (S j).bl.length ≤ id → m.blk id = none := by
  have hjs := T.lt
  have range : ∀ d, j + d ≤ ops.size → ∀ id, (S j).bl.length ≤ id → id < (S (j + d)).bl.length → m.blk id = none := by
    intro d
    induction d with
    | zero => intro _ id h1 h2; simp at h2; omega
    | succ d ih =>
      intro hle id h1 h2
      by_cases c : id < (S (j + d)).bl.length
      · exact ih (by omega) id h1 c
      · have hxl : j + d < al.length := by rw [R.len]; omega
        have hax := List.getElem?_eq_getElem hxl
        by_cases d0 : d = 0
        · subst d0
          exact I.fresh1 j hjs T.un id h1 (by simpa using h2)
        · refine I.fresh1 (j + d) (by omega) (fun hl => ?_) id (by omega) (by rw [show j + d + 1 = j + (d + 1) by omega]; exact h2)
          have hox := Array.getElem?_eq_getElem (show j + d < ops.size by omega)
          have hmem : hardK soft (j + d) al[j + d].op = true := by
            cases hm : hardK soft (j + d) al[j + d].op
            · have := R.nonhard (j + d) _ hax hm
              rw [show j + d + 1 = j + (d + 1) by omega] at this
              rw [this] at h2; omega
            · rfl
          exact T.un (first_done R I.closed (by omega) T.ho hox T.ha hax (I.closed _ _ hox hl) (.inr (.inr (.inl ⟨hef, hmem⟩))))
  have hfresh : ∀ id, (S j).bl.length ≤ id → m.blk id = none := fun id hid => by
    by_cases c : id < (S ops.size).bl.length
    · exact range (ops.size - j) (by omega) id hid (by rw [show j + (ops.size - j) = ops.size by omega]; exact c)
    · exact I.fresh2 id (by omega)
  exact hfresh

/-- where one that changes a block is due, those before it are done -/
theorem Turn.due (R : Reg P call own ops al S e soft) {listed : Array Bool} {j : Nat} {o : Oper} {ao : AOper} (T : Turn ops al listed j o ao)
    (hcl : ∀ (x : Nat) (o : Oper), ops[x]? = some o → lst listed x → ∀ e ∈ o.after.toList, Region.binds .any e = true → lst listed e.on) (hef : ao.op.isEff = true) {f : Nat}
    (f2 : ∀ (x : Nat) (ao : AOper), al[x]? = some ao → ao.op.isEff = true → (lst listed x ↔ x < f)) (f3 : f < ops.size → ∃ ao, al[f]? = some ao ∧ ao.op.isEff = true) : f = j := by
  have hjs := T.lt
  have hnj : ¬ j < f := fun h => T.un ((f2 j ao T.ha hef).2 h)
  rcases Nat.lt_trichotomy f j with c | c | c
  · exfalso
    obtain ⟨af, haf, hfe⟩ := f3 (by omega)
    have hof := Array.getElem?_eq_getElem (show f < ops.size by omega)
    have := first_done R hcl c hof T.ho haf T.ha T.edge (.inr (.inr (.inl ⟨hfe, hard_eff hef⟩)))
    have := (f2 f af haf hfe).1 this
    omega
  · exact c
  · omega

/-- behind an operation that changes no block -/
theorem Inv.next (R : Reg P call own ops al S e soft) {listed : Array Bool} {j : Nat} {o : Oper} {ao : AOper} (T : Turn ops al listed j o ao) {m m' : Mem} {k k' : Nat} {w w' : World} {a : Act} (I : Inv P call own ops al S e B listed m k w a.tmps)
    {p : PV} {v : Value} (hd : ao.dst = o.dst) (hsl : (S (j + 1)).sl = putP (S j).sl ao.dst p) (hk : Keeps k m m') (hkk : k ≤ k') (hp : Rep m' k' p v) (hf : FrzOk m' w') (hB : B ≤ w'.heap.size)
    (ho : ∃ f, f ≤ ops.size ∧ (∀ (x : Nat) (ao : AOper), al[x]? = some ao → ao.op.isEff = true → (lst (listed.setIfInBounds j true) x ↔ x < f)) ∧ (f < ops.size → ∃ ao, al[f]? = some ao ∧ ao.op.isEff = true) ∧ Owns B m' k' w' (S f).bl)
    (hbl : ∀ id, m'.blk id = m.blk id ∨ ((S j).bl.length ≤ id ∧ id < (S (j + 1)).bl.length)) : Inv P call own ops al S e B (listed.setIfInBounds j true) m' k' w' (a.put o.dst v).tmps := by
  have hjl : j < listed.size := by rw [I.lsize]; exact T.lt
  have hjs := T.lt
  refine ⟨by simp [I.lsize], fun x ox hx hl ed he hb => ?_, ?_, fun t => ?_, hf, hB, ho, fun x hx hl id h1 h2 => ?_, fun id hid => ?_⟩
  · rw [lst_set hjl] at hl ⊢
    rcases hl with hl | hl
    · exact .inl (I.closed x ox hx hl ed he hb)
    · subst hl
      rw [T.ho] at hx
      cases hx
      exact .inl (T.edge ed he hb)
  · cases o.dst <;> simp [Act.put, I.size]
  · by_cases hdt : o.dst = some t
    · refine ⟨j + 1, by omega, fun x ax hx hxd => ?_, ?_⟩
      · rw [lst_set hjl, T.writers R I.closed (.inr hdt) x ax hx hxd]
        omega
      · rw [hsl, hd, hdt]
        simp only [Act.put, putP]
        rw [Array.getD_eq_getD_getElem?, List.getD_eq_getElem?_getD]
        have hls : (S j).sl.length = (S 0).sl.length := by have := (R.mono 0 j (by omega)).2; simpa using this
        by_cases hlt : t < (S j).sl.length
        · rw [List.getElem?_set_self hlt, Array.getElem?_setIfInBounds_self_of_lt (by rw [I.size]; omega)]
          exact hp
        · rw [List.getElem?_eq_none (by simp; omega)]
          exact .top
    · obtain ⟨i, hi, h1, h2⟩ := I.slot t
      refine ⟨i, hi, fun x ax hx hxd => ?_, ?_⟩
      · rw [lst_set hjl, ← h1 x ax hx hxd]
        refine ⟨fun h => h.resolve_right (fun e => ?_), .inl⟩
        subst e
        rw [T.ha] at hx
        cases hx
        rw [hd] at hxd
        exact hdt hxd
      · have : (a.put o.dst v).tmps.getD t undef = a.tmps.getD t undef := by
          cases hdo : o.dst with
          | none => rfl
          | some d =>
            simp only [Act.put]
            rw [Array.getD_eq_getD_getElem?, Array.getD_eq_getD_getElem?, Array.getElem?_setIfInBounds_ne (fun e => hdt (by rw [hdo, e]))]
        rw [this]
        exact (h2.mono hk.mle).up hkk
  · rw [lst_set hjl] at hl
    have hl1 : ¬ lst listed x := fun h => hl (.inl h)
    have hne : x ≠ j := fun h => hl (.inr h)
    rcases hbl id with h | ⟨h3, h4⟩
    · rw [h]; exact I.fresh1 x hx hl1 id h1 h2
    · exfalso
      rcases Nat.lt_or_gt_of_ne hne with c | c
      · have := (R.mono (x + 1) (j - (x + 1)) (by omega)).1
        rw [show x + 1 + (j - (x + 1)) = j by omega] at this
        omega
      · have := (R.mono (j + 1) (x - (j + 1)) (by omega)).1
        rw [show j + 1 + (x - (j + 1)) = x by omega] at this
        omega
  · rcases hbl id with h | ⟨h3, h4⟩
    · rw [h]; exact I.fresh2 id hid
    · have := (R.mono (j + 1) (ops.size - (j + 1)) (by omega)).1
      rw [show j + 1 + (ops.size - (j + 1)) = ops.size by omega] at this
      omega

theorem evOne_cases {s s' : St} {ao : AOper} (h : evOne call s ao = some s') :
    (evOp call s ao = some s' ∧ (ao.guard = none ∨ ∃ sl want b, ao.guard = some (sl, want) ∧ s.sl.getD sl .top = .bool b ∧ b = want)) ∨
    (∃ sl want, ao.guard = some (sl, want) ∧ ((∃ b, s.sl.getD sl .top = .bool b ∧ b ≠ want) ∨ ∃ cs, s.sl.getD sl .top = .v (.tuple cs)) ∧ s' = ⟨putP s.sl ao.dst (.v (.tuple #[])), s.bl⟩) := by
  unfold evOne at h
  split at h
  · rename_i hg; exact .inl ⟨h, .inl hg⟩
  · rename_i s0 want hg
    split at h
    · rename_i b hb
      split at h
      · rename_i hbw; exact .inl ⟨h, .inr ⟨s0, want, b, hg, hb, hbw⟩⟩
      · rename_i hbw; cases h; exact .inr ⟨s0, want, hg, .inl ⟨b, hb, hbw⟩, rfl⟩
    · rename_i cs hb; cases h; exact .inr ⟨s0, want, hg, .inr ⟨cs, hb⟩, rfl⟩
    · cases h

/-- one operation, in whatever order -/
theorem turn_step (hc : CallOk P call) (R : Reg P call own ops al S e soft) {listed : Array Bool} {j : Nat} {o : Oper} {ao : AOper} (T : Turn ops al listed j o ao) {m : Mem} {k : Nat} {w : World} {a : Act} (I : Inv P call own ops al S e B listed m k w a.tmps) {N : Nat} (hNk : N ≤ k)
    {Q : Exit → Act → World → Prop} {K : Act → World → Prop}
    (hn : ∀ m' k' w' a', Inv P call own ops al S e B (listed.setIfInBounds j true) m' k' w' a'.tmps → Below B w w' → Grow B N m m' → a'.defers = a.defers → N ≤ k' → K a' w') :
    wpOp P ops Q j K a w := by
  obtain ⟨ao', hao', hdig⟩ := R.op j o T.ho
  rw [T.ha] at hao'
  cases hao'
  obtain ⟨hd1, hd2, hd3⟩ := digOper_spec hdig
  obtain ⟨w1, w2, w3⟩ := wanted_iff (tmps := a.tmps) hdig
  have hstep := R.step j ao T.ha
  have hst := evOne_step hstep
  have hjl : j < listed.size := by rw [I.lsize]; exact T.lt
  have hjs := T.lt
  have hput : ∀ v, (a.put o.dst v).defers = a.defers := fun v => by cases o.dst <;> rfl
  have guardIn : ∀ s want, ao.guard = some (s, want) → s ∈ looks o ao := fun s want hg => by
    unfold looks; rw [hg]; simp
  have opIn : ∀ t, Operand.tmp t ∈ o.op.operands → t ∈ looks o ao := fun t ht => by
    unfold looks
    exact List.mem_append_left _ (List.mem_filterMap.2 ⟨.tmp t, by simpa using ht, rfl⟩)
  have hops : ∀ t, Operand.tmp t ∈ o.op.operands → Rep m k ((S j).sl.getD t .top) (a.tmps.getD t undef) := fun t ht => T.slot R I (opIn t ht)
  unfold wpOp
  rw [T.ho]
  simp only
  rcases evOne_cases hstep with ⟨hop, hwant⟩ | ⟨s0, want, hg, hbb, hs'⟩
  · -- it is wanted
    have hw : Region.wanted o (yielded ops a.tmps) = true := by
      rcases hwant with hg | ⟨s0, want, b, hg, hb, hbw⟩
      · exact w1 hg
      · have rb := T.slot R I (guardIn s0 want hg)
        rw [hb] at rb
        rw [w2 s0 want b hg (bool_inv rb)]
        simpa using hbw
    rw [if_pos hw]
    refine .inl ?_
    unfold evOp at hop
    split at hop
    · -- the one that changes a block
      rename_i hef
      obtain ⟨f, f1, f2, f3, f4⟩ := I.own
      have hfj := T.due R I.closed hef f2 f3
      rw [hfj] at f2 f4
      split at hop
      · rename_i p bl' hev
        have hS : S (j + 1) = ⟨putP (S j).sl ao.dst p, bl'⟩ := by injection hop with hop; exact hop.symm
        have howns := f4
        have hfresh := T.free R I hef
        refine eff_sound hc o ao.op B k m w (S j).sl (S j).bl bl' a p K Q hd1 hev hops ⟨I.frz, howns, I.hB, hfresh⟩ (fun v m' w' k' hout => hn m' k' w' _ ?_ hout.bel ⟨hout.le.cell, hout.cel, fun b i hb hi => hout.le.blk b i (Nat.lt_of_lt_of_le hb hNk) hi⟩ (hput v) (Nat.le_trans hNk hout.kk))
        -- the blocks behind it
        have hbl' : (S (j + 1)).bl = bl' := by rw [hS]
        obtain ⟨f', n1, n2, n3, n4⟩ := R.nextE (ops.size - (j + 1)) (j + 1) (by omega)
        obtain ⟨ns, hns⟩ := R.pre (j + 1) (f' - (j + 1)) (by omega) (fun x ao h1 h2 => n3 x ao h1 (by omega))
        rw [show j + 1 + (f' - (j + 1)) = f' by omega, hbl'] at hns
        have hown2 : Owns B m' k' w' (S f').bl := by rw [hns]; exact hout.own.more hout.fresh
        have hjl1 : lst (listed.setIfInBounds j true) j := (lst_set hjl).2 (.inr rfl)
        refine ⟨by simp [I.lsize], fun x ox hx hl ed he hb => ?_, ?_, fun t => ?_, hout.frz, Nat.le_trans I.hB hout.bel.size, ⟨f', n2, fun x ax hx hxe => ?_, n4, hown2⟩, fun x hx hl id h1 h2 => ?_, fun id hid => ?_⟩
        · rw [lst_set hjl] at hl ⊢
          rcases hl with hl | hl
          · exact .inl (I.closed x ox hx hl ed he hb)
          · subst hl
            rw [T.ho] at hx
            cases hx
            exact .inl (T.edge ed he hb)
        · cases o.dst <;> simp [Act.put, I.size]
        · by_cases hdt : o.dst = some t
          · refine ⟨j + 1, by omega, fun x ax hx hxd => ?_, ?_⟩
            · rw [lst_set hjl, T.writers R I.closed (.inr hdt) x ax hx hxd]
              omega
            · rw [hS, hd2, hdt]
              simp only [Act.put, putP]
              rw [Array.getD_eq_getD_getElem?, List.getD_eq_getElem?_getD]
              have hls : (S j).sl.length = (S 0).sl.length := by have := (R.mono 0 j (by omega)).2; simpa using this
              by_cases hlt : t < (S j).sl.length
              · rw [List.getElem?_set_self hlt, Array.getElem?_setIfInBounds_self_of_lt (by rw [I.size]; omega)]
                exact hout.rep
              · rw [List.getElem?_eq_none (by simp; omega)]
                exact .top
          · obtain ⟨i, hi, h1, h2⟩ := I.slot t
            refine ⟨i, hi, fun x ax hx hxd => ?_, ?_⟩
            · rw [lst_set hjl, ← h1 x ax hx hxd]
              refine ⟨fun h => h.resolve_right (fun e => ?_), .inl⟩
              subst e
              rw [T.ha] at hx
              cases hx
              rw [hd2] at hxd
              exact hdt hxd
            · have : (a.put o.dst v).tmps.getD t undef = a.tmps.getD t undef := by
                cases hdo : o.dst with
                | none => rfl
                | some d =>
                  simp only [Act.put]
                  rw [Array.getD_eq_getD_getElem?, Array.getD_eq_getD_getElem?, Array.getElem?_setIfInBounds_ne (fun e => hdt (by rw [hdo, e]))]
              rw [this]
              exact (h2.mono hout.le).up hout.kk
        · rw [lst_set hjl]
          constructor
          · rintro (h | h)
            · have := (f2 x ax hx hxe).1 h; omega
            · omega
          · intro h
            rcases Nat.lt_trichotomy x j with c | c | c
            · exact .inl ((f2 x ax hx hxe).2 c)
            · exact .inr c
            · have := n3 x ax (by omega) h hx
              rw [hxe] at this; cases this
        · rw [lst_set hjl] at hl
          have hl1 : ¬ lst listed x := fun h => hl (.inl h)
          have hne : x ≠ j := fun h => hl (.inr h)
          rcases Nat.lt_or_gt_of_ne hne with c | c
          · -- an operation before it that is not done touches no memory
            exfalso
            have hxl : x < al.length := by rw [R.len]; exact hx
            have hax := List.getElem?_eq_getElem hxl
            have hox := Array.getElem?_eq_getElem hx
            have hmem : hardK soft x al[x].op = true := by
              cases hm : hardK soft x al[x].op
              · have := R.nonhard x _ hax hm
                rw [this] at h2; omega
              · rfl
            exact hl1 (first_done R I.closed c hox T.ho hax T.ha T.edge (.inr (.inr (.inr ⟨hmem, hef⟩))))
          · refine hout.fresh id ?_
            have := (R.mono (j + 1) (x - (j + 1)) (by omega)).1
            rw [show j + 1 + (x - (j + 1)) = x by omega, hbl'] at this
            omega
        · refine hout.fresh id ?_
          have := (R.mono (j + 1) (ops.size - (j + 1)) (by omega)).1
          rw [show j + 1 + (ops.size - (j + 1)) = ops.size by omega, hbl'] at this
          omega
      · cases hop
    · -- one that changes none
      rename_i hnef
      have hnef' : ao.op.isEff = false := by simpa using hnef
      split at hop
      · rename_i p ns hev
        have hS : S (j + 1) = ⟨putP (S j).sl ao.dst p, (S j).bl ++ ns.map some⟩ := by injection hop with hop; exact hop.symm
        have hSl : (S (j + 1)).bl = (S j).bl ++ ns.map some := by rw [hS]
        -- the blocks that are there
        obtain ⟨f, f1, f2, f3, f4⟩ := I.own
        have hne : ∀ (x : Nat) (ax : AOper), al[x]? = some ax → ax.op.isEff = true → j ≠ x := fun x ax hx hxe h => by
          subst h
          rw [T.ha] at hx
          cases hx
          rw [hnef'] at hxe; cases hxe
        have hmst : ∃ BL : Blks, BL = (S f).bl ∧ Owns B m k w BL ∧ (∀ m' k' w', Owns B m' k' w' BL → Owns B m' k' w' (S f).bl) ∧
            (hardK soft j ao.op = true → ∀ (x : Nat) (y : Option Blk), ((S j).bl ++ ns.map some)[x]? = some y → BL[x]? = some y) := by
          refine ⟨(S f).bl, rfl, f4, fun _ _ _ h => h, fun hm x y hx => ?_⟩
          have hjf : j < f := by
            rcases Nat.lt_trichotomy f j with c | c | c
            · exfalso
              obtain ⟨af, haf, hfe⟩ := f3 (by omega)
              have := (f2 f af haf hfe).1 ((T.mem R I.closed hm (hne f af haf hfe) haf hfe).2 c)
              omega
            · exfalso
              obtain ⟨af, haf, hfe⟩ := f3 (by omega)
              exact hne f af haf hfe c.symm
            · exact c
          obtain ⟨ns2, h3⟩ := R.pre (j + 1) (f - (j + 1)) (by omega) (fun x ax h1 h2 hax => by
            cases hxe : ax.op.isEff
            · rfl
            · exfalso
              have hl := (f2 x ax hax hxe).2 (by omega)
              have := (T.mem R I.closed hm (hne x ax hax hxe) hax hxe).1 hl
              omega)
          rw [show j + 1 + (f - (j + 1)) = f by omega] at h3
          rw [h3, hSl, List.getElem?_append_left (List.getElem?_eq_some_iff.1 hx).1]
          exact hx
        have hf2' : ∀ (x : Nat) (ax : AOper), al[x]? = some ax → ax.op.isEff = true → (lst (listed.setIfInBounds j true) x ↔ x < f) := fun x ax hx hxe => by
          rw [lst_set hjl, ← f2 x ax hx hxe]
          exact ⟨fun h => h.resolve_right (fun h => hne x ax hx hxe h.symm), .inl⟩
        obtain ⟨BL, hBL, hown, hback, hsub⟩ := hmst
        have hex : ∃ bl0 : Blks, evPur call (S j).sl bl0 ao.op = some (p, ns) ∧ (∀ (x : Nat) (y : Option Blk), (bl0 ++ ns.map some)[x]? = some y → BL[x]? = some y) ∧ (ns = [] ∨ bl0 = (S j).bl) := by
          cases hm : memK ao.op
          · obtain ⟨h1, h2⟩ := evPur_non hm hev
            exact ⟨BL, h2 BL, fun x y hx => by rw [h1] at hx; simpa using hx, .inl h1⟩
          · cases hh : hardK soft j ao.op
            · unfold hardK at hh
              rw [hm] at hh
              simp only [Bool.true_and, Bool.or_eq_false_iff, Bool.not_eq_false'] at hh
              obtain ⟨_, p', h1, h2⟩ := R.soft j ao f T.ha hh.1 hh.2 (by rw [R.len]; exact f1)
              rw [h1] at hev
              cases hev
              exact ⟨BL, by rw [hBL]; exact h2, fun x y hx => by simpa using hx, .inl rfl⟩
            · exact ⟨(S j).bl, hev, hsub hh, .inr rfl⟩
        obtain ⟨bl0, hev0, hsub0, hor⟩ := hex
        have hids := T.ids R I
        have hnl : (S (j + 1)).bl.length = (S j).bl.length + ns.length := by rw [hSl]; simp
        refine pur_sound hc o ao.op B k m w (S j).sl bl0 BL a p ns K Q hd1 hev0 hops ⟨I.frz, hown, I.hB, hsub0, fun jj hjj => ?_⟩
          (fun v m' w' k' hout => hn m' k' w' _ (Inv.next R T I hd2 (by rw [hS]) hout.keep hout.kk hout.rep hout.frz (Nat.le_trans I.hB hout.bel.size) ⟨f, f1, hf2', f3, hback m' k' w' hout.own⟩ (fun id => ?_)) (hout.bel.mono I.hB) ⟨hout.keep.cell, fun b o v hv => ?_, fun b i _ hi => ⟨i, hout.keep.blk b i hi, .inl rfl⟩⟩ (hput v) (Nat.le_trans hNk hout.kk))
        · rcases hor with h | h
          · rw [h] at hjj; simp at hjj
          · rw [h]; exact hids _ (by omega) (by omega)
        · rcases hout.blk id with h | h
          · exact .inl h
          · rcases hor with h2 | h2
            · rw [h2] at h; simp at h; omega
            · rw [h2] at h; right; omega
        · rcases hout.cel b o v hv with h | h
          · exact .inl h
          · exact .inr (Nat.le_trans I.hB h)
      · cases hop
  · -- it is not wanted
    have rb := T.slot R I (guardIn s0 want hg)
    have hw : Region.wanted o (yielded ops a.tmps) = false := by
      rcases hbb with ⟨b, hb, hbw⟩ | ⟨cs, hb⟩
      · rw [hb] at rb
        rw [w2 s0 want b hg (bool_inv rb)]
        simpa using hbw
      · rw [hb] at rb
        exact w3 s0 want cs hg (v_inv rb)
    rw [if_neg (by rw [hw]; simp)]
    have hSb : (S (j + 1)).bl = (S j).bl := by rw [hs']
    obtain ⟨f, f1, f2, f3, f4⟩ := I.own
    refine hn m k w _ (Inv.next (p := .v (.tuple #[])) (v := undef) R T I hd2 (by rw [hs']) (Keeps.refl k m) (Nat.le_refl _) (.v (x := undef)) I.frz I.hB ?_ (fun id => .inl rfl)) (Below.refl _ _) (Grow.refl _ _ _) (hput _) hNk
    cases hef : ao.op.isEff
    · refine ⟨f, f1, fun x ax hx hxe => ?_, f3, f4⟩
      rw [lst_set hjl, ← f2 x ax hx hxe]
      refine ⟨fun h => h.resolve_right (fun h => ?_), .inl⟩
      subst h
      rw [T.ha] at hx
      cases hx
      rw [hef] at hxe; cases hxe
    · have hfj := T.due R I.closed hef f2 f3
      rw [hfj] at f2 f4
      obtain ⟨f', n1, n2, n3, n4⟩ := R.nextE (ops.size - (j + 1)) (j + 1) (by omega)
      obtain ⟨ns, hns⟩ := R.pre (j + 1) (f' - (j + 1)) (by omega) (fun x ao h1 h2 => n3 x ao h1 (by omega))
      rw [show j + 1 + (f' - (j + 1)) = f' by omega, hSb] at hns
      refine ⟨f', n2, fun x ax hx hxe => ?_, n4, by rw [hns]; exact f4.more (T.free R I hef)⟩
      rw [lst_set hjl]
      constructor
      · rintro (h | h)
        · have := (f2 x ax hx hxe).1 h; omega
        · omega
      · intro h
        rcases Nat.lt_trichotomy x j with c | c | c
        · exact .inl ((f2 x ax hx hxe).2 c)
        · exact .inr c
        · have := n3 x ax (by omega) h hx
          rw [hxe] at this; cases this

end
end
end Go.Proofs.YtidkdiooempkpaaDoor
/- Code and functions. -/
namespace Go.Proofs.YtidkdiooempkpaaDoor
open Go Go.RowKit
set_option linter.unusedSectionVars false
variable [Bs]
set_option linter.unusedVariables false
set_option linter.unusedSimpArgs false

section
variable {P : Program} {call : Cl} {own : List Nat}

/-- how many are not done yet -/
def undone (listed : Array Bool) (n : Nat) : Nat := (List.range n).countP fun x => !listed.getD x false

theorem countP_set {listed : Array Bool} {j : Nat} (hj : j < listed.size) (hu : ¬ lst listed j) : ∀ n, (List.range n).countP (fun x => !(listed.setIfInBounds j true).getD x false) + (if j < n then 1 else 0) = (List.range n).countP fun x => !listed.getD x false
  | 0 => by simp
  | n + 1 => by
    have ih := countP_set hj hu n
    rw [List.range_succ, List.countP_append, List.countP_append]
    generalize (List.range n).countP (fun x => !(listed.setIfInBounds j true).getD x false) = A at ih ⊢
    generalize (List.range n).countP (fun x => !listed.getD x false) = A2 at ih ⊢
    by_cases e : j = n
    · subst e
      have h1 : listed.getD j false = false := by simpa [lst] using hu
      have h2 : (listed.setIfInBounds j true).getD j false = true := by simp [hj]
      rw [if_neg (Nat.lt_irrefl _)] at ih
      rw [if_pos (Nat.lt_succ_self _)]
      simp only [List.countP_cons, List.countP_nil, h1, h2, Bool.not_true, Bool.not_false, Bool.false_eq_true, if_false, if_true]
      omega
    · have h1 : (listed.setIfInBounds j true).getD n false = listed.getD n false := getD_set_ne false e
      simp only [List.countP_cons, List.countP_nil, h1]
      by_cases c : j < n
      · rw [if_pos c] at ih
        rw [if_pos (show j < n + 1 by omega)]
        omega
      · rw [if_neg c] at ih
        rw [if_neg (show ¬ j < n + 1 by omega)]
        omega

theorem any_draw (hc : CallOk P call) {ops : Array Oper} {al : List AOper} {S : Nat → St} {e B N : Nat} {soft : List Nat} (R : Reg P call own ops al S e soft) (hN : N ≤ (S 0).bl.length) {Q : Exit → Act → World → Prop} {m0 : Mem} {w0 : World} {a0 : Act}
    (hq : ∀ m' k' w' a', Fin B N m0 w0 a0 (S ops.size) m' k' w' a' → Q .normal a' w') :
    ∀ (fuel : Nat) (listed : Array Bool) (m : Mem) (k : Nat) (w : World) (a : Act), undone listed ops.size ≤ fuel → Inv P call own ops al S e B listed m k w a.tmps → Below B w0 w → Grow B N m0 m → a.defers = a0.defers → N ≤ k →
      wpAny P .any ops Q fuel listed a w := by
  -- when all are done
  have done : ∀ (listed : Array Bool) (m : Mem) (k : Nat) (w : World) (a : Act), (∀ x, x < ops.size → lst listed x) → Inv P call own ops al S e B listed m k w a.tmps → Below B w0 w → Grow B N m0 m → a.defers = a0.defers → N ≤ k → Q .normal a w := by
    intro listed m k w a hall I hb hg hd hNk
    have hmo := (R.mono 0 ops.size (by omega)).1
    rw [Nat.zero_add] at hmo
    have hls : (S ops.size).sl.length = (S 0).sl.length := by have := (R.mono 0 ops.size (by omega)).2; simpa using this
    refine hq m k w a ⟨⟨by rw [I.size, hls], fun t => ?_, ⟨I.frz, ?_, I.hB, I.fresh2⟩, Nat.le_trans hN hmo, hNk⟩, hb, hg, hd⟩
    · obtain ⟨i, hi, h1, h2⟩ := I.slot t
      rw [R.same2 (i := ops.size) (j := i) (Nat.le_refl _) hi (fun x ax hx hxd => by
        have hxl : x < ops.size := by rw [← R.len]; exact (List.getElem?_eq_some_iff.1 hx).1
        exact ⟨fun _ => (h1 x ax hx hxd).1 (hall x hxl), fun _ => hxl⟩)]
      exact h2
    · obtain ⟨f, f1, f2, f3, f4⟩ := I.own
      rcases Nat.lt_or_ge f ops.size with h | h
      · exfalso
        obtain ⟨af, haf, hfe⟩ := f3 h
        have := (f2 f af haf hfe).1 (hall f h)
        omega
      · rw [show f = ops.size by omega] at f4
        exact f4
  -- when none is ready, all are done
  have ready : ∀ (listed : Array Bool) (m : Mem) (k : Nat) (w : World) (tmps : Array Value), Inv P call own ops al S e B listed m k w tmps → Region.ready .any ops listed = [] → ∀ n x, x < n → x < ops.size → lst listed x := by
    intro listed m k w tmps I hr n
    induction n with
    | zero => intro x hx; omega
    | succ n ih =>
      intro x hx hxs
      by_cases hxn : x < n
      · exact ih x hxn hxs
      · by_cases hl : lst listed x
        · exact hl
        · exfalso
          have hox := Array.getElem?_eq_getElem hxs
          have : x ∈ Region.ready .any ops listed := by
            rw [mem_ready]
            refine ⟨?_, _, hox, fun ed he hb => ?_⟩
            · have hxl : x < listed.size := by rw [I.lsize]; exact hxs
              unfold lst at hl
              rw [Array.getD_eq_getD_getElem?, Array.getElem?_eq_getElem hxl] at hl ⊢
              simpa using hl
            · have hlt := R.edge x _ hox ed (by simpa using he) hb
              exact ih ed.on (by omega) (by omega)
          rw [hr] at this
          cases this
  have turn : ∀ (listed : Array Bool) (m : Mem) (k : Nat) (w : World) (tmps : Array Value), Inv P call own ops al S e B listed m k w tmps → ∀ i ∈ Region.ready .any ops listed, ∃ o ao, Turn ops al listed i o ao := by
    intro listed m k w tmps I i hi
    obtain ⟨h1, o, ho, h2⟩ := mem_ready.1 hi
    obtain ⟨ao, ha, _⟩ := R.op i o ho
    have hil : i < listed.size := by rw [I.lsize]; exact (Array.getElem?_eq_some_iff.1 ho).1
    refine ⟨o, ao, ho, ha, ?_, fun ed he hb => h2 ed (by simpa using he) hb⟩
    unfold lst
    rw [Array.getD_eq_getD_getElem?, Array.getElem?_eq_getElem hil] at h1 ⊢
    simpa using h1
  intro fuel
  induction fuel with
  | zero =>
    intro listed m k w a hu I hb hg hd hNk
    have hall : ∀ x, x < ops.size → lst listed x := fun x hx => by
      unfold undone at hu
      have h0 : (List.range ops.size).countP (fun x => !listed.getD x false) = 0 := by omega
      rw [List.countP_eq_zero] at h0
      have := h0 x (by simpa using hx)
      simpa [lst] using this
    have hnil : Region.ready .any ops listed = [] := by
      cases hr : Region.ready .any ops listed with
      | nil => rfl
      | cons i r =>
        exfalso
        obtain ⟨o, ao, T⟩ := turn listed m k w a.tmps I i (by rw [hr]; simp)
        exact T.un (hall i T.lt)
    exact ⟨hnil, done listed m k w a hall I hb hg hd hNk⟩
  | succ fuel ih =>
    intro listed m k w a hu I hb hg hd hNk
    refine ⟨fun hr => done listed m k w a (fun x hx => ready listed m k w a.tmps I hr (x + 1) x (by omega) hx) I hb hg hd hNk, fun i hi => ?_⟩
    obtain ⟨o, ao, T⟩ := turn listed m k w a.tmps I i hi
    refine turn_step hc R T I hNk (fun m' k' w' a' I' hb' hg' hd' hNk' => ih _ m' k' w' a' ?_ I' (hb.trans hb') (hg.trans hg') (hd'.trans hd) hNk')
    have := countP_set (j := i) (by rw [I.lsize]; exact T.lt) T.un ops.size
    rw [if_pos T.lt] at this
    unfold undone at hu ⊢
    omega

theorem region_draw (hc : CallOk P call) {id : Nat} {ops : Array Oper} {al : List AOper} {B N : Nat} {Q : Exit → Act → World → Prop} {st st' : St} {a : Act} {w : World} {m : Mem} {k : Nat} {soft : List Nat} (hd : digOps P own ops ops.toList = some al) (hk : drawOk P soft ops al = true) (hsf : soft = [] ∨ softChk call soft al st = true)
    (he : evOps call al st = some st') (hs : StOk B N m k w st a.tmps) (hq : ∀ m' k' w' a', Fin B N m w a st' m' k' w' a' → Q .normal a' w') : (Code.region id ops true).wp P Q a w := by
  unfold drawOk at hk
  simp only [Bool.and_eq_true] at hk
  obtain ⟨⟨hm, hp⟩, hed⟩ := hk
  obtain ⟨hlen, hop⟩ := digOps_get hd
  obtain ⟨S, s0, s1, s2⟩ := evOps_trace he
  have hlen' : al.length = ops.size := by simpa using hlen
  rw [hlen'] at s1
  have R : Reg P call own ops al S 0 soft := by
    refine ⟨hlen', fun i o ho => hop i o (by simpa using ho), s2, fun p q o1 o2 a1 a2 hpq h1 h2 h3 h4 => ?_, ?_, fun i o ho ed hed' hb => ?_⟩
    · have z : ∀ (x : Nat) (o : Oper) (a : AOper), ops[x]? = some o → al[x]? = some a → (ops.toList.zip al)[x]? = some (o, a) := fun x o a h h' => by
        rw [List.getElem?_zip_eq_some]
        exact ⟨by simpa using h, h'⟩
      have := pairsGo_spec hp p q _ _ hpq (z p o1 a1 h1 h3) (z q o2 a2 h2 h4)
      simpa using this
    · rcases hsf with h | h
      · intro j ao f _ _ hs _
        rw [h] at hs
        simp [hasN] at hs
      · exact soft_reg h S s0 s2
    · have := edgesOk_spec hed i o (by simpa using ho) ed hed' hb
      omega
  have hl0 : ∀ x, ¬ lst (Array.replicate ops.size false) x := fun x => by
    unfold lst
    rw [Array.getD_eq_getD_getElem?, Array.getElem?_replicate]
    split <;> simp
  refine wp_region_any hm (any_draw (B := B) (N := N) hc R (by rw [s0]; exact hs.nb) (m0 := m) (w0 := w) (a0 := a) (by rw [s1]; exact hq) ops.size _ m k _ a ?_ ?_ ((Below.refl _ _).drew) (Grow.refl _ _ _) rfl hs.nk)
  · exact Nat.le_trans List.countP_le_length (by simp)
  · have hdrew : ∀ (BL : Blks), Owns B m k w BL → Owns B m k w.drew BL := fun BL h => ⟨fun id x i hx hi => (h.at_ id x i hx hi).mono (MLe.refl _ _) (Nat.le_refl _) (fun _ => rfl), h.base, h.inj⟩
    obtain ⟨f, n1, n2, n3, n4⟩ := R.nextE ops.size 0 (by omega)
    have hgrow : Owns B m k w (S f).bl := by
      obtain ⟨ns, hns⟩ := R.pre 0 f (by omega) (fun x ao h1 h2 => n3 x ao h1 (by omega))
      rw [Nat.zero_add, s0] at hns
      rw [hns]
      exact hs.eff.own.more hs.eff.fresh
    refine ⟨by simp, fun x o hx hl => absurd hl (hl0 x), by rw [s0]; exact hs.size, fun t => ⟨0, by omega, fun x ao _ _ => ⟨fun h => absurd h (hl0 x), fun h => by omega⟩, by rw [s0]; exact hs.sl t⟩, ⟨fun b o u hu => hs.eff.frz.1 b o u hu, hs.eff.frz.2⟩, hs.eff.hB, ⟨f, n2, fun x ao hx hxe => ⟨fun h => absurd h (hl0 x), fun h => by have := n3 x ao (by omega) h hx; rw [hxe] at this; cases this⟩, n4, hdrew _ hgrow⟩, fun x hx _ id h1 h2 => ?_, fun id hid => ?_⟩
    · have := (R.mono 0 x (by omega)).1
      rw [Nat.zero_add, s0] at this
      exact hs.eff.fresh id (by omega)
    · have := (R.mono 0 ops.size (by omega)).1
      rw [Nat.zero_add, s0] at this
      exact hs.eff.fresh id (by omega)

end
end Go.Proofs.YtidkdiooempkpaaDoor
/- Code, functions, and what a function hands out. -/
namespace Go.Proofs.YtidkdiooempkpaaDoor
open Go Go.RowKit
set_option linter.unusedSectionVars false
variable [Bs]
set_option linter.unusedVariables false
set_option linter.unusedSimpArgs false

theorem forget_get (keep : List Nat) : ∀ (i : Nat) (l : List PV), (forget keep i l).length = l.length ∧ ∀ t, (forget keep i l)[t]? = l[t]? ∨ (forget keep i l).getD t .top = .top
  | i, [] => ⟨rfl, fun t => .inl rfl⟩
  | i, p :: r => by
    obtain ⟨h1, h2⟩ := forget_get keep (i + 1) r
    refine ⟨by simp [forget, h1], fun t => ?_⟩
    cases t with
    | zero =>
      simp only [forget]
      cases hasN i keep
      · right; simp
      · left; simp
    | succ t => simpa [forget] using h2 t

theorem blksLt_spec {k : Nat} : ∀ {bl : Blks}, blksLt k bl = true → ∀ (id : Nat) (x : Blk), bl[id]? = some (some x) → x.flat = true ∨ x.rows.all (PV.lt.ltL k) = true
  | [], _, id, x, hx => by simp at hx
  | none :: r, h, id, x, hx => by
    cases id with
    | zero => simp at hx
    | succ id => exact blksLt_spec (by simpa [blksLt] using h) id x (by simpa using hx)
  | some y :: r, h, id, x, hx => by
    simp only [blksLt, Bool.and_eq_true, Bool.or_eq_true] at h
    cases id with
    | zero => simp at hx; subst hx; exact h.1
    | succ id => exact blksLt_spec h.2 id x (by simpa using hx)

theorem trimT_le {sl : List PV} {bl : Blks} : ∀ (f t : Nat), t ≤ trimT sl bl f t
  | 0, t => Nat.le_refl _
  | f + 1, t => by
    simp only [trimT]
    split
    · exact Nat.le_refl _
    · exact Nat.le_trans (Nat.le_succ t) (trimT_le f (t + 1))

theorem norm_ok {B N k : Nat} {m : Mem} {w : World} {st : St} {tmps : Array Value} (keep : List Nat) (n0 : Nat) (hs : StOk B N m k w st tmps) (hn00 : N ≤ n0) : ∃ m' k', StOk B N m' k' w (norm keep n0 st) tmps ∧ m'.cell = m.cell ∧ ∀ b, b < N → m'.blk b = m.blk b := by
  obtain ⟨f1, f2⟩ := forget_get keep 0 st.sl
  have slots : ∀ t, Rep m k ((forget keep 0 st.sl).getD t .top) (tmps.getD t undef) := fun t => by
    rcases f2 t with h | h
    · rw [List.getD_eq_getElem?_getD, h, ← List.getD_eq_getElem?_getD]; exact hs.sl t
    · rw [h]; exact .top
  unfold norm
  have hn0 := Nat.le_trans hn00 (trimT_le (sl := forget keep 0 st.sl) (bl := st.bl) (st.bl.length - n0) n0)
  generalize trimT (forget keep 0 st.sl) st.bl (st.bl.length - n0) n0 = n0 at hn0
  unfold trimB
  split
  · rename_i hc
    simp only [Bool.and_eq_true] at hc
    obtain ⟨c1, c2⟩ := hc
    let m' : Mem := ⟨m.cell, fun id => if id < n0 then m.blk id else none⟩
    have hle : MLe n0 m m' := ⟨fun _ _ _ h => h, fun b i hb hi => ⟨i, by simp [m', hb, hi], .inl rfl⟩⟩
    have hblk : ∀ id i, m'.blk id = some i → m.blk id = some i := fun id i hi => by
      simp only [m'] at hi
      split at hi
      · exact hi
      · cases hi
    have htk : ∀ (id : Nat) (x : Option Blk), (st.bl.take n0)[id]? = some x → st.bl[id]? = some x := fun id x hx => by
      rw [List.getElem?_take] at hx
      split at hx
      · exact hx
      · cases hx
    refine ⟨m', n0, ⟨by rw [f1]; exact hs.size, fun t => ?_, ⟨hs.eff.frz, ⟨fun id x i hx hi => ?_, fun id x i hx hi => hs.eff.own.base id x i (htk id _ hx) (hblk id i hi), fun id x i id' x' i' hx hi hx' hi' => hs.eff.own.inj id x i id' x' i' (htk id _ hx) (hblk id i hi) (htk id' _ hx') (hblk id' i' hi')⟩, hs.eff.hB, fun id hid => ?_⟩, by have := hs.nb; simp only [List.length_take]; omega, hn0⟩, rfl, fun b hb => by simp only [m']; rw [if_pos (by omega)]⟩
    · refine (Rep.down (slots t) ?_).mono hle
      by_cases ht : t < (forget keep 0 st.sl).length
      · exact ltL_all c1 t _ (by rw [List.getD_eq_getElem?_getD, List.getElem?_eq_getElem ht]; rfl)
      · rw [List.getD_eq_getElem?_getD, List.getElem?_eq_none (by omega)]; rfl
    · rcases hs.eff.own.at_ id x i (htk id _ hx) (hblk id i hi) with hat | hat | hat
      · skip
        refine .inl ⟨hat.ver, hat.e, hat.n, hat.rowl, ?_, hat.ne⟩
        rcases hat.mem with h | ⟨hv, cur, ty, h1, h2, h3, h4, h5⟩
        · exact .inl h
        · refine .inr ⟨hv, cur, ty, h1, h2, h3, h4, fun r row j p hr hj => ?_⟩
          obtain ⟨v, g1, g2, g3⟩ := h5 r row j p hr hj
          refine ⟨v, g1, g2, ?_⟩
          cases hfl : x.flat
          · rcases blksLt_spec c2 id x hx with h | h
            · rw [hfl] at h; cases h
            · rw [hfl] at g3
              simp only [Bool.false_eq_true, if_false] at g3 ⊢
              exact (g3.down (ltL_all (all_get h hr) j p hj)).mono hle
          · rw [hfl] at g3
            simp only [if_true] at g3 ⊢
            exact g3.re (fun _ _ _ h => h)
      · obtain ⟨es, clock, h1, h2, h9⟩ := hat.mem
        refine .inr (.inl ⟨hat.ver, hat.e, hat.virt, es, clock, h1, ⟨h2.1, fun r row hr => ?_⟩, h9⟩)
        obtain ⟨kp, vp, e, f1, f2, f3, f4⟩ := h2.2 r row hr
        refine ⟨kp, vp, e, f1, f2, ?_⟩
        cases hfl : x.flat
        · rcases blksLt_spec c2 id x hx with h | h
          · rw [hfl] at h; cases h
          · rw [hfl] at f3 f4
            simp only [Bool.false_eq_true, if_false] at f3 f4 ⊢
            have hl := all_get h hr
            subst f1
            exact ⟨(f3.down (ltL_all hl 0 kp rfl)).mono hle, (f4.down (ltL_all hl 1 vp rfl)).mono hle⟩
        · rw [hfl] at f3 f4
          simp only [if_true] at f3 f4 ⊢
          exact ⟨f3.re (fun _ _ _ h => h), f4.re (fun _ _ _ h => h)⟩
      · exact .inr (.inr hat)
    · by_cases hn : id < n0
      · simp only [m', if_pos hn]
        exact hs.eff.fresh id (by simp at hid; omega)
      · simp only [m', if_neg hn]
  · exact ⟨m, k, ⟨by rw [f1]; exact hs.size, slots, hs.eff, hs.nb, hs.nk⟩, rfl, fun _ _ => rfl⟩

section
variable {P : Program} {call : Cl} {own : List Nat}

/-- a loop, by a number that sinks -/
theorem wp_loop_ind {Q : Exit → Act → World → Prop} {c : Code} (R : Nat → Act → World → Prop) (round : ∀ n a w, R n a w → c.wp P (Exit.then (fun a' w' => ∃ m, m < n ∧ R m a' w') Q) a w) {n : Nat} {a : Act} {w : World} (h : R n a w) : (Code.loop c).wp P Q a w := by
  intro b k cs
  have key : ∀ n a w, R n a w → ∃ e a' w', Q e a' w' ∧ Arrives P (lone (b.at a (.code c :: .inLoop c :: k)) cs w) b k cs e a' w' := by
    intro n
    induction n using Nat.strongRecOn with
    | _ n ih =>
      intro a w hR
      obtain ⟨e, a₁, w₁, hq, harr⟩ := round n a w hR b (.inLoop c :: k) cs
      cases e with
      | normal =>
        obtain ⟨m, hlt, hR1⟩ := hq
        obtain ⟨e₂, a₂, w₂, hq₂, harr₂⟩ := ih m hlt a₁ w₁ hR1
        exact ⟨e₂, a₂, w₂, hq₂, .of_steps (Steps.trans harr (.one step_inLoop)) harr₂⟩
      | exit id => exact ⟨_, a₁, w₁, hq, .pass (x := .inLoop c) rfl (fun _ _ => .inl (by simp)) harr⟩
      | goto l => exact ⟨_, a₁, w₁, hq, .pass (x := .inLoop c) rfl (fun _ _ => .inl (by simp)) harr⟩
      | ret => exact ⟨_, a₁, w₁, hq, .pass (x := .inLoop c) rfl (fun _ _ => .inl (by simp)) harr⟩
      | panic ch => exact ⟨_, a₁, w₁, hq, .pass (x := .inLoop c) rfl (fun _ _ => .inl (by simp)) harr⟩
      | outgrown => exact ⟨_, a₁, w₁, hq, .pass (x := .inLoop c) rfl (fun _ _ => .inl (by simp)) harr⟩
  obtain ⟨e, a', w', hq, harr⟩ := key n a w h
  exact ⟨e, a', w', hq, .of_steps (.one step_loop) harr⟩

/-- what is asked of the end of a piece of code -/
def QOk (B N : Nat) (m : Mem) (w : World) (a : Act) (Q : Exit → Act → World → Prop) : Out → Prop
  | .normal st => ∀ m' k' w' a', Fin B N m w a st m' k' w' a' → Q .normal a' w'
  | .exit id st => ∀ m' k' w' a', Fin B N m w a st m' k' w' a' → Q (.exit id) a' w'
  | .ret st => ∀ m' k' w' a', Fin B N m w a st m' k' w' a' → Q .ret a' w'

theorem QOk.step {B N : Nat} {m m1 : Mem} {w w1 : World} {a a1 : Act} {Q : Exit → Act → World → Prop} {out : Out} (h : QOk B N m w a Q out) (hb : Below B w w1) (hg : Grow B N m m1) (hd : a1.defers = a.defers) : QOk B N m1 w1 a1 Q out := by
  cases out <;> exact fun m' k' w' a' f => h m' k' w' a' ⟨f.st, hb.trans f.bel, hg.trans f.grow, f.defers.trans hd⟩

theorem code_sound (hc : CallOk P call) (n : Nat) {B N : Nat} : ∀ (c : Code) (ks ks' : List (List Nat)) (ac : AC), digCode P own c ks = some (ac, ks') → ∀ (st : St) (out : Out) (a : Act) (w : World) (m : Mem) (k : Nat) (Q : Exit → Act → World → Prop),
    evCode call n ac st = some out → StOk B N m k w st a.tmps → QOk B N m w a Q out → c.wp P Q a w := by
  intro c
  induction c with
  | skip =>
    intro ks ks' ac hd st out a w m k Q he hs hq
    simp only [digCode] at hd
    cases hd
    simp only [evCode] at he
    cases he
    exact wp_skip (hq m k w a ⟨hs, Below.refl _ _, Grow.refl _ _ _, rfl⟩)
  | region id ops draw =>
    intro ks ks' ac hd st out a w m k Q he hs hq
    simp only [digCode] at hd
    split at hd
    · rename_i al hal
      split at hd
      · rename_i hdr
        subst hdr
        split at hd
        · rename_i hok
          cases hd
          simp only [evCode] at he
          split at he
          · rename_i st' hev
            cases he
            exact region_draw hc hal hok (.inl rfl) hev hs hq
          · cases he
        · split at hd
          · rename_i hok
            cases hd
            simp only [evCode] at he
            split at he
            · rename_i st' hev
              split at he
              · rename_i hck
                cases he
                exact region_draw hc hal hok (.inr hck) hev hs hq
              · cases he
            · cases he
          · cases hd
            simp [evCode] at he
      · rename_i hdr
        cases hd
        have hdr' : draw = false := by simpa using hdr
        subst hdr'
        simp only [evCode] at he
        split at he
        · rename_i st' hev
          cases he
          exact wp_region_list (ops_seq hc ops.toList al hal st st' a w m k hev hs hq)
        · cases he
    · cases hd
      simp [evCode] at he
  | seq x y ihx ihy =>
    intro ks ks' ac hd st out a w m k Q he hs hq
    simp only [digCode] at hd
    split at hd
    · rename_i ax ks1 hx
      split at hd
      · rename_i ay ks2 hy
        cases hd
        simp only [evCode] at he
        refine wp_seq ?_
        split at he
        · rename_i st1 h1
          refine ihx ks ks1 ax hx st (.normal st1) a w m k _ h1 hs (fun m1 k1 w1 a1 f => ?_)
          exact ihy ks1 _ ay hy st1 out a1 w1 m1 k1 Q he f.st (hq.step f.bel f.grow f.defers)
        · rename_i r hne
          cases out with
          | normal st' => exact absurd he (hne st')
          | exit id st' => exact ihx ks ks1 ax hx st _ a w m k _ he hs hq
          | ret st' => exact ihx ks ks1 ax hx st _ a w m k _ he hs hq
      · cases hd
    · cases hd
  | cond cc x y ihx ihy =>
    intro ks ks' ac hd st out a w m k Q he hs hq
    simp only [digCode] at hd
    split at hd
    · rename_i acc hcc
      split at hd
      · rename_i ax ks1 hx
        split at hd
        · rename_i ay ks2 hy
          cases hd
          simp only [evCode] at he
          have rc := opd (a := a) (m := m) (k := k) (sl := st.sl) hcc (fun t _ => hs.sl t)
          split at he
          · rename_i t ht
            rw [ht] at rc
            refine wp_cond (bool_inv rc) ?_
            split at he
            · rename_i htt
              subst htt
              exact ihx ks ks1 ax hx st out a w m k Q he hs hq
            · rename_i htt
              have : t = false := by simpa using htt
              subst this
              exact ihy ks1 _ ay hy st out a w m k Q he hs hq
          · cases he
        · cases hd
      · cases hd
    · cases hd
      simp [evCode] at he
  | block id x ih =>
    intro ks ks' ac hd st out a w m k Q he hs hq
    simp only [digCode] at hd
    split at hd
    · rename_i ax ks1 hx
      cases hd
      simp only [evCode] at he
      refine wp_block ?_
      split at he
      · rename_i id' st1 h1
        split at he
        · rename_i hid
          cases he
          refine ih ks _ ax hx st _ a w m k _ h1 hs (fun m1 k1 w1 a1 f => ?_)
          show Exit.inBlock id Q (.exit id') a1 w1
          simp only [Exit.inBlock, hid, if_true]
          exact hq m1 k1 w1 a1 f
        · rename_i hid
          cases he
          refine ih ks _ ax hx st _ a w m k _ h1 hs (fun m1 k1 w1 a1 f => ?_)
          show Exit.inBlock id Q (.exit id') a1 w1
          simp only [Exit.inBlock, hid, if_false]
          exact hq m1 k1 w1 a1 f
      · rename_i r hne
        cases out with
        | normal st' => exact ih ks _ ax hx st _ a w m k _ he hs hq
        | exit id' st' => exact absurd he (hne id' st')
        | ret st' => exact ih ks _ ax hx st _ a w m k _ he hs hq
    · cases hd
  | loop x ih =>
    intro ks ks' ac hd st out a w m k Q he hs hq
    simp only [digCode] at hd
    split at hd
    · rename_i ax ks1 hx
      cases hd
      simp only [evCode] at he
      refine wp_loop_ind (R := fun q a1 w1 => ∃ st1 m1 k1, evLoop (evCode call n ax) (ks.headD []) st.bl.length q st1 = some out ∧ StOk B N m1 k1 w1 st1 a1.tmps ∧ Below B w w1 ∧ Grow B N m m1 ∧ a1.defers = a.defers) ?_ (n := n) ⟨st, m, k, he, hs, Below.refl _ _, Grow.refl _ _ _, rfl⟩
      rintro q a1 w1 ⟨st1, m1, k1, h1, h2, h3, h4, h5⟩
      cases q with
      | zero => simp [evLoop] at h1
      | succ q =>
        simp only [evLoop] at h1
        obtain ⟨m2, k2, g1, g2, g3⟩ := norm_ok (ks.headD []) st.bl.length h2 hs.nb
        have hg2 : Grow B N m1 m2 := ⟨fun b o v h => by rw [g2]; exact h, fun b o v h => by rw [g2] at h; exact .inl h, fun b i hb hi => ⟨i, by rw [g3 b hb]; exact hi, .inl rfl⟩⟩
        split at h1
        · rename_i st2 h6
          refine ih ks.tail _ ax hx _ (.normal st2) a1 w1 m2 k2 _ h6 g1 (fun m3 k3 w3 a3 f => ?_)
          exact ⟨q, by omega, st2, m3, k3, h1, f.st, h3.trans f.bel, (h4.trans hg2).trans f.grow, f.defers.trans h5⟩
        · rename_i r hne
          have hq2 := hq.step h3 (h4.trans hg2) h5
          cases out with
          | normal st' => exact absurd h1 (hne st')
          | exit id st' => exact ih ks.tail _ ax hx _ _ a1 w1 m2 k2 _ h1 g1 hq2
          | ret st' => exact ih ks.tail _ ax hx _ _ a1 w1 m2 k2 _ h1 g1 hq2
    · cases hd
  | exit id =>
    intro ks ks' ac hd st out a w m k Q he hs hq
    simp only [digCode] at hd
    cases hd
    simp only [evCode] at he
    cases he
    exact wp_exit (hq m k w a ⟨hs, Below.refl _ _, Grow.refl _ _ _, rfl⟩)
  | ret =>
    intro ks ks' ac hd st out a w m k Q he hs hq
    simp only [digCode] at hd
    cases hd
    simp only [evCode] at he
    cases he
    exact wp_ret (hq m k w a ⟨hs, Below.refl _ _, Grow.refl _ _ _, rfl⟩)
  | _ =>
    intro ks ks' ac hd st out a w m k Q he hs hq
    simp only [digCode] at hd
    cases hd
    simp [evCode] at he

end
end Go.Proofs.YtidkdiooempkpaaDoor
/- What a function hands out; functions. -/
namespace Go.Proofs.YtidkdiooempkpaaDoor
open Go Go.RowKit
set_option linter.unusedSectionVars false
variable [Bs]
set_option linter.unusedVariables false
set_option linter.unusedSimpArgs false

theorem kill_spec : ∀ (ids : List Nat) (bl : Blks) (id : Nat) (x : Blk), (kill ids bl)[id]? = some (some x) → bl[id]? = some (some x) ∧ id ∉ ids
  | [], bl, id, x, h => ⟨by simpa [kill] using h, by simp⟩
  | b :: ids, bl, id, x, h => by
    have h' : (kill ids (bl.set b none))[id]? = some (some x) := h
    obtain ⟨h1, h2⟩ := kill_spec ids _ id x h'
    by_cases e : b = id
    · subst e
      rw [List.getElem?_set] at h1
      simp at h1
    · rw [List.getElem?_set_ne e] at h1
      exact ⟨h1, by simp [h2]; exact fun h => e h.symm⟩

theorem cls_imp {n : Nat} {bl : Blks} {p q : PV} (h : cls n bl p = some q) (h1 : ∀ cs, p ≠ .agg cs) (h2 : ∀ cs, p ≠ .tup cs) : impB q = [] ∧ ∀ K, impV K q = q := by
  cases n with
  | zero => simp [cls] at h
  | succ n =>
    simp only [cls] at h
    split at h
    · rename_i hlt
      cases h
      cases p <;> first | exact ⟨rfl, fun _ => rfl⟩ | exact absurd rfl (h1 _) | exact absurd rfl (h2 _) | (simp [PV.lt] at hlt; done)
    · repeat' split at h
      all_goals first | (cases h; done) | (cases h; exact ⟨rfl, fun _ => rfl⟩) | exact absurd rfl (h1 _) | exact absurd rfl (h2 _)

/-- what is known of the blocks that a value hands out -/
structure Hand (bl : Blks) (m : Mem) (w : World) (c' : Nat → Nat → Option Value) (ids : List Nat) (r : PV) (infos : List Info) (v : Value) : Prop where
  len : infos.length = (impB r).length
  len2 : infos.length = ids.length
  info : ∀ (j : Nat) (b : Nat) (i : Info), ids[j]? = some b → infos[j]? = some i → ∃ i0 x0, bl[b]? = some (some x0) ∧ m.blk b = some i0 ∧ i.g = i0.g ∧ i.virt = i0.virt
  at_ : ∀ (j : Nat) (x : Blk) (i : Info), (impB r)[j]? = some x → infos[j]? = some i → BlkAt ⟨c', noBlk⟩ 0 w i x
  rep : ∀ K mb, (∀ (j : Nat) (i : Info), infos[j]? = some i → mb (K + j) = some i) → Rep ⟨c', mb⟩ (K + infos.length) (impV K r) v

structure HandL (bl : Blks) (m : Mem) (w : World) (c' : Nat → Nat → Option Value) (ids : List Nat) (rs : List PV) (infos : List Info) (f : Nat → Value) : Prop where
  len : infos.length = (impB.impBL rs).length
  len2 : infos.length = ids.length
  info : ∀ (j : Nat) (b : Nat) (i : Info), ids[j]? = some b → infos[j]? = some i → ∃ i0 x0, bl[b]? = some (some x0) ∧ m.blk b = some i0 ∧ i.g = i0.g ∧ i.virt = i0.virt
  at_ : ∀ (j : Nat) (x : Blk) (i : Info), (impB.impBL rs)[j]? = some x → infos[j]? = some i → BlkAt ⟨c', noBlk⟩ 0 w i x
  rep : ∀ K mb, (∀ (j : Nat) (i : Info), infos[j]? = some i → mb (K + j) = some i) → ∀ (i : Nat) (p : PV), (impV.impVL K rs)[i]? = some p → Rep ⟨c', mb⟩ (K + infos.length) p (f i)

theorem impVL_len {K : Nat} : ∀ {rs : List PV}, (impV.impVL K rs).length = rs.length := by
  intro rs
  induction rs generalizing K with
  | nil => rfl
  | cons r rs ih => simp [impV.impVL, ih]

set_option linter.unusedSectionVars false
section
variable {B k : Nat} {m : Mem} {w : World} {bl : Blks} {ids : List Nat} (hf : FrzOk m w) (ho : Owns B m k w bl)
include hf ho

theorem owns_kill : Owns B m k w (kill ids bl) :=
  ⟨fun id x i hx hi => ho.at_ id x i (kill_spec ids bl id x hx).1 hi, fun id x i hx hi => ho.base id x i (kill_spec ids bl id x hx).1 hi,
    fun id x i id' x' i' hx hi hx' hi' => ho.inj id x i id' x' i' (kill_spec ids bl id x hx).1 hi (kill_spec ids bl id' x' hx').1 hi'⟩

theorem hand_cls {p q : PV} {v : Value} {kk : Nat} (h : cls clsFuel (kill ids bl) p = some q) (h1 : ∀ cs, p ≠ .agg cs) (h2 : ∀ cs, p ≠ .tup cs) (hr : Rep m kk p v) : Hand bl m w (lend m w (kill ids bl)).cell [] q [] v := by
  obtain ⟨e1, e2⟩ := cls_imp h h1 h2
  refine ⟨by rw [e1]; rfl, rfl, fun j b i hj => by simp at hj, fun j x i hj => by rw [e1] at hj; simp at hj, fun K mb _ => ?_⟩
  rw [e2]
  have := cls_rep hf (owns_kill hf ho) (fun _ _ h => h) clsFuel p q v kk h hr
  exact (Rep.re (m' := ⟨(lend m w (kill ids bl)).cell, mb⟩) this (fun _ _ _ h => h)).up (Nat.zero_le _)

theorem hand_own {b ver lo len : Nat} {x : Blk} {rs : List (List PV)} {v : Value} {kk : Nat} (hg : getB bl b ver = some x) (hrs : (if x.flat then some x.rows else mapO (mapO (cls clsFuel (kill ids bl))) x.rows) = some rs) (hlo : lo = 0) (hlen : len ≤ x.rows.length)
    (hr : Rep m kk (.own b ver lo len) v) : ∃ i, Hand bl m w (lend m w (kill ids bl)).cell [b] (.fr x.e (rs.take len)) [i] v := by
  obtain ⟨hbl, hver⟩ := getB_spec hg
  obtain ⟨i, g1, g2, g3, g4, g5⟩ := own_inv hr
  have hat := (ho.at_ b x i hbl g2).blk (getB_ne hg)
  have hrl : rs.length = x.rows.length := by
    split at hrs
    · cases hrs; rfl
    · exact (mapO_spec hrs).1
  have old : ∀ bb o u, m.cell bb o = some u → (lend m w (kill ids bl)).cell bb o = some u := fun bb o u h => addCells_old h
  have hrt : (rs.take len).length = len := by rw [List.length_take]; omega
  have hat2 : BlkAt ⟨(lend m w (kill ids bl)).cell, noBlk⟩ 0 w ⟨i.g, (rs.take len).length, i.e, (rs.take len).length, i.cap, i.virt⟩ ⟨(rs.take len).length, x.e, true, rs.take len⟩ := by
    refine ⟨rfl, hat.e, rfl, fun r hr => ?_, ?_, hat.ne⟩
    · have hr := List.mem_of_mem_take hr
      split at hrs
      · cases hrs; exact hat.rowl r hr
      · obtain ⟨t, ht⟩ := List.getElem?_of_mem hr
        obtain ⟨a, ha, hfa⟩ := (mapO_spec hrs).2 t r ht
        rw [(mapO_spec hfa).1]
        exact hat.rowl a (List.mem_of_getElem? ha)
    · rcases hat.mem with ⟨h1, h2⟩ | ⟨hv, cur, ty, m1, m2, m3, m4, m5⟩
      · left
        have : rs = [] := List.eq_nil_of_length_eq_zero (by rw [hrl, h2]; rfl)
        refine ⟨h1, by rw [this]; simp⟩
      · have hn := hat.n
        refine .inr ⟨hv, cur, ty, m1, m2, by show (rs.take len).length ≤ i.cap; omega, m4, fun r row j q hr hj => ?_⟩
        have hr : rs[r]? = some row := by
          have hlt := (List.getElem?_eq_some_iff.1 hr).1
          rw [hrt] at hlt
          rw [List.getElem?_take_of_lt hlt] at hr
          exact hr
        simp only [if_true]
        split at hrs
        · rename_i hfl
          cases hrs
          rw [hfl] at m5
          obtain ⟨u, h1, h2, h3⟩ := m5 r row j q hr hj
          simp only [if_true] at h3
          exact ⟨u, h1, h2, h3.re old⟩
        · obtain ⟨row0, ha, hfa⟩ := (mapO_spec hrs).2 r row hr
          obtain ⟨q0, hq0, hfq⟩ := (mapO_spec hfa).2 j q hj
          obtain ⟨u, h1, h2, h3⟩ := m5 r row0 j q0 ha hq0
          exact ⟨u, h1, h2, (cls_rep hf (owns_kill hf ho) (fun _ _ h => h) clsFuel q0 q u _ hfq h3).re (fun _ _ _ h => h)⟩
  refine ⟨⟨i.g, (rs.take len).length, i.e, (rs.take len).length, i.cap, i.virt⟩, rfl, rfl, fun j b' i' hj hi' => ?_, fun j y i' hj hi' => ?_, fun K mb hmb => ?_⟩
  · cases j with
    | zero => simp at hj hi'; subst hj hi'; exact ⟨i, x, hbl, g2, rfl, rfl⟩
    | succ j => simp at hj
  · cases j with
    | zero => simp only [impB, List.getElem?_cons_zero, Option.some.injEq] at hj hi'; subst hj hi'; exact hat2
    | succ j => simp [impB] at hj
  · simp only [impV]
    refine .own (by simp) (hmb 0 _ rfl) (Nat.le_refl _) g4 (fun _ => ?_)
    have hov := g5 (hat.ver.trans hver)
    subst hlo
    have hn := hat.n
    rw [hrt]
    rcases hov with ⟨o1, o2, o3⟩ | ⟨o1, cap, o2, o3, o4, o5⟩
    · exact .inl ⟨o1, by show len ≤ 0; omega, o3⟩
    · exact .inr ⟨o1, cap, o2, o3, by show len ≤ 0 + cap; have := hat.n; omega, o5⟩

mutual
theorem expo_rep {g : Bool} : ∀ (p r : PV) (v : Value) (kk : Nat), expo g bl (kill ids bl) ids p = some r → Rep m kk p v → (∀ b ∈ frIds g bl p, b ∈ ids) → ∃ infos, Hand bl m w (lend m w (kill ids bl)).cell (frIds g bl p) r infos v
  | .own b ver lo len, r, v, kk, h, hr, hi => by
    simp only [expo] at h
    split at h
    · rename_i hb
      split at h
      · rename_i x hg
        split at h
        · rename_i rs hrs
          split at h
          · rename_i hc
            cases h
            have : frIds g bl (.own b ver lo len) = [b] := by simp only [frIds, hg]; rw [if_pos hc]
            rw [this]
            obtain ⟨i, hH⟩ := hand_own hf ho hg hrs hc.1 (Nat.le_of_eq hc.2) hr
            have hrl : rs.length = x.rows.length := by
              split at hrs
              · cases hrs; rfl
              · exact (mapO_spec hrs).1
            rw [List.take_of_length_le (by omega)] at hH
            exact ⟨[i], hH⟩
          · rename_i hc0
            split at h
            · rename_i hc
              cases h
              have : frIds g bl (.own b ver lo len) = [b] := by simp only [frIds, hg]; rw [if_neg hc0, if_pos hc]
              rw [this]
              obtain ⟨i, hH⟩ := hand_own hf ho hg hrs hc.1 (by omega) hr
              rw [hc.2, List.take_zero] at hH
              exact ⟨[i], hH⟩
            · rename_i hc1
              split at h
              · rename_i hc
                cases h
                have : frIds g bl (.own b ver lo len) = [b] := by simp only [frIds, hg]; rw [if_neg hc0, if_neg hc1, if_pos hc]
                rw [this]
                obtain ⟨i, hH⟩ := hand_own hf ho hg hrs hc.2.1 hc.2.2 hr
                exact ⟨[i], hH⟩
              · cases h
        · cases h
      · cases h
    · rename_i hb
      have : frIds g bl (.own b ver lo len) = [] := by
        cases hfr : frIds g bl (.own b ver lo len) with
        | nil => rfl
        | cons c r =>
          exfalso
          have hcb : c = b := by
            have : c ∈ frIds g bl (.own b ver lo len) := by rw [hfr]; simp
            simp only [frIds] at this
            split at this
            · split at this
              · simpa using this
              · split at this
                · simpa using this
                · split at this
                  · simpa using this
                  · simp at this
            · simp at this
          have := hi c (by rw [hfr]; simp)
          rw [hcb] at this
          exact hb (hasN_iff.2 this)
      rw [this]
      exact ⟨[], hand_cls hf ho h (fun _ h => by cases h) (fun _ h => by cases h) hr⟩
  | .agg cs, r, v, kk, h, hr, hi => by
    simp only [expo] at h
    split at h
    · rename_i rs hrs
      cases h
      obtain ⟨vs, rfl, h2, h3⟩ := agg_inv hr
      obtain ⟨infos, H, hl⟩ := expoL_rep cs rs (fun i => vs.getD i undef) kk hrs h3 (by simpa [frIds] using hi)
      refine ⟨infos, by simpa [impB] using H.len, by simpa [frIds] using H.len2, by simpa [frIds] using H.info, by simpa [impB] using H.at_, fun K mb hmb => ?_⟩
      simp only [impV]
      exact .agg (by rw [impVL_len, hl, h2]) (H.rep K mb hmb)
    · cases h
  | .tup cs, r, v, kk, h, hr, hi => by
    simp only [expo] at h
    split at h
    · rename_i rs hrs
      cases h
      obtain ⟨vs, rfl, h2, h3⟩ := tup_inv hr
      obtain ⟨infos, H, hl⟩ := expoL_rep cs rs (fun i => vs.getD i undef) kk hrs h3 (by simpa [frIds] using hi)
      refine ⟨infos, by simpa [impB] using H.len, by simpa [frIds] using H.len2, by simpa [frIds] using H.info, by simpa [impB] using H.at_, fun K mb hmb => ?_⟩
      simp only [impV]
      exact .tup (by rw [impVL_len, hl, h2]) (H.rep K mb hmb)
    · cases h
  | .bool b, r, v, kk, h, hr, hi => ⟨[], hand_cls hf ho (by simpa only [expo] using h) (fun _ h => by cases h) (fun _ h => by cases h) hr⟩
  | .int j n, r, v, kk, h, hr, hi => ⟨[], hand_cls hf ho (by simpa only [expo] using h) (fun _ h => by cases h) (fun _ h => by cases h) hr⟩
  | .str s, r, v, kk, h, hr, hi => ⟨[], hand_cls hf ho (by simpa only [expo] using h) (fun _ h => by cases h) (fun _ h => by cases h) hr⟩
  | .v x, r, v, kk, h, hr, hi => ⟨[], hand_cls hf ho (by simpa only [expo] using h) (fun _ h => by cases h) (fun _ h => by cases h) hr⟩
  | .top, r, v, kk, h, hr, hi => ⟨[], hand_cls hf ho (by simpa only [expo] using h) (fun _ h => by cases h) (fun _ h => by cases h) hr⟩
  | .nn, r, v, kk, h, hr, hi => ⟨[], hand_cls hf ho (by simpa only [expo] using h) (fun _ h => by cases h) (fun _ h => by cases h) hr⟩
  | .nilS, r, v, kk, h, hr, hi => ⟨[], hand_cls hf ho (by simpa only [expo] using h) (fun _ h => by cases h) (fun _ h => by cases h) hr⟩
  | .sl _ _ _, r, v, kk, h, hr, hi => ⟨[], hand_cls hf ho (by simpa only [expo] using h) (fun _ h => by cases h) (fun _ h => by cases h) hr⟩
  | .cptr _, r, v, kk, h, hr, hi => ⟨[], hand_cls hf ho (by simpa only [expo] using h) (fun _ h => by cases h) (fun _ h => by cases h) hr⟩
  | .ptr _ _ _ _, r, v, kk, h, hr, hi => ⟨[], hand_cls hf ho (by simpa only [expo] using h) (fun _ h => by cases h) (fun _ h => by cases h) hr⟩
  | .mp _ _, r, v, kk, h, hr, hi => ⟨[], hand_cls hf ho (by simpa only [expo] using h) (fun _ h => by cases h) (fun _ h => by cases h) hr⟩
  | .fn _ _, r, v, kk, h, hr, hi => ⟨[], hand_cls hf ho (by simpa only [expo] using h) (fun _ h => by cases h) (fun _ h => by cases h) hr⟩
  | .fr _ _, r, v, kk, h, hr, hi => ⟨[], hand_cls hf ho (by simpa only [expo] using h) (fun _ h => by cases h) (fun _ h => by cases h) hr⟩
theorem expoL_rep {g : Bool} : ∀ (cs rs : List PV) (f : Nat → Value) (kk : Nat), expo.expoL g bl (kill ids bl) ids cs = some rs → (∀ (i : Nat) (p : PV), cs[i]? = some p → Rep m kk p (f i)) → (∀ b ∈ frIds.frIdsL g bl cs, b ∈ ids) →
    ∃ infos, HandL bl m w (lend m w (kill ids bl)).cell (frIds.frIdsL g bl cs) rs infos f ∧ rs.length = cs.length
  | [], rs, f, kk, h, hr, hi => by
    simp only [expo.expoL] at h
    cases h
    exact ⟨[], ⟨rfl, rfl, fun j b i hj => by simp [frIds.frIdsL] at hj, fun j x i hj => by simp [impB.impBL] at hj, fun K mb _ i p hp => by simp [impV.impVL] at hp⟩, rfl⟩
  | p :: cs, rs, f, kk, h, hr, hi => by
    simp only [expo.expoL] at h
    split at h
    · rename_i q hq
      split at h
      · rename_i qs hqs
        cases h
        simp only [frIds.frIdsL] at hi ⊢
        obtain ⟨i1, H1⟩ := expo_rep p q (f 0) kk hq (hr 0 p rfl) (fun b hb => hi b (by simp [hb]))
        obtain ⟨i2, H2, hl⟩ := expoL_rep cs qs (fun i => f (i + 1)) kk hqs (fun i p hp => hr (i + 1) p (by simpa using hp)) (fun b hb => hi b (by simp [hb]))
        refine ⟨i1 ++ i2, ⟨by simp [impB.impBL, H1.len, H2.len], by simp [H1.len2, H2.len2], fun j b i hj hji => ?_, fun j x i hj hji => ?_, fun K mb hmb i p hp => ?_⟩, by simp [hl]⟩
        · by_cases c : j < i1.length
          · rw [List.getElem?_append_left c] at hji
            rw [List.getElem?_append_left (by rw [← H1.len2]; exact c)] at hj
            exact H1.info j b i hj hji
          · rw [List.getElem?_append_right (by omega)] at hji
            rw [List.getElem?_append_right (by rw [← H1.len2]; omega), ← H1.len2] at hj
            exact H2.info _ b i hj hji
        · simp only [impB.impBL] at hj
          by_cases c : j < i1.length
          · rw [List.getElem?_append_left c] at hji
            rw [List.getElem?_append_left (by rw [← H1.len]; exact c)] at hj
            exact H1.at_ j x i hj hji
          · rw [List.getElem?_append_right (by omega)] at hji
            rw [List.getElem?_append_right (by rw [← H1.len]; omega), ← H1.len] at hj
            exact H2.at_ _ x i hj hji
        · simp only [impV.impVL] at hp
          cases i with
          | zero =>
            simp at hp
            subst hp
            refine (H1.rep K mb (fun j i hj => hmb j i ?_)).up (by simp)
            rw [List.getElem?_append_left (List.getElem?_eq_some_iff.1 hj).1]
            exact hj
          | succ i =>
            have := H2.rep (K + (impB q).length) mb (fun j i hj => by
              rw [Nat.add_assoc]
              refine hmb _ i ?_
              rw [List.getElem?_append_right (by rw [H1.len]; omega), H1.len, Nat.add_sub_cancel_left]
              exact hj) i p (by simpa using hp)
            refine this.up ?_
            rw [← H1.len]; simp; omega
      · cases h
    · cases h
end
end

theorem nodupN_spec : ∀ {l : List Nat}, nodupN l = true → ∀ (i j : Nat) (b : Nat), l[i]? = some b → l[j]? = some b → i = j
  | [], _, i, j, b, hi, _ => by simp at hi
  | c :: r, h, i, j, b, hi, hj => by
    simp only [nodupN, Bool.and_eq_true, Bool.not_eq_true'] at h
    have hc : ∀ t, r[t]? = some c → False := fun t ht => by
      have := hasN_iff.2 (List.mem_of_getElem? ht)
      rw [this] at h; cases h.1
    cases i with
    | zero =>
      simp at hi
      subst hi
      cases j with
      | zero => rfl
      | succ j => exact (hc j (by simpa using hj)).elim
    | succ i =>
      cases j with
      | zero => simp at hj; subst hj; exact (hc i (by simpa using hi)).elim
      | succ j => rw [nodupN_spec h.2 i j b (by simpa using hi) (by simpa using hj)]

theorem addCells_none {c : Nat → Nat → Option Value} {w : World} {gs : Nat → Prop} {b o : Nat} (h : c b o = none) (hg : ¬ gs b) : addCells c w gs b o = none := by simp [addCells, h, hg]

/-- what a function hands out at its end -/
theorem ret_okG {g : Bool} {m0 m : Mem} {k : Nat} {w0 w : World} {bl : Blks} {p r : PV} {v : Value} (h : expoG g bl p = some r) (hr : Rep m k p v) (hf : FrzOk m w) (ho : Owns w0.heap.size m k w bl) (hb : Below w0.heap.size w0 w) {N : Nat} (hg : Grow w0.heap.size N m0 m) : RetOk m0 w0 w r v := by
  unfold expoG at h
  simp only at h
  split at h
  · rename_i hnd
    obtain ⟨infos, H⟩ := expo_rep (ids := frIds g bl p) hf ho p r v k h hr (fun b hb => hb)
    refine ⟨hb, (lend m w (kill (frIds g bl p) bl)).cell, infos, fun b o u hu => addCells_old (hg.cell b o u hu), fun b o u hu => ?_, addCells_frz (mb := noBlk) hf noBlk, H.len, fun j x i hx hi => ⟨H.at_ j x i hx hi, fun hv => ?_⟩, fun j i j' i' hi hi' hv hv' hgg => ?_, H.rep⟩
    · rcases addCells_from hu with hu | ⟨id, x, i, hx, hi, hv, rfl⟩
      · exact hg.from_ b o u hu
      · exact .inr (ho.base id x i (kill_spec _ _ _ _ hx).1 hi hv).1
    · have hjl : j < (frIds g bl p).length := by rw [← H.len2]; exact (List.getElem?_eq_some_iff.1 hi).1
      obtain ⟨i0, x0, e1, e2, e3, e4⟩ := H.info j _ i (List.getElem?_eq_getElem hjl) hi
      rw [hv] at e4
      obtain ⟨b1, b2⟩ := ho.base _ x0 i0 e1 e2 e4.symm
      rw [e3]
      refine ⟨b1, fun o => addCells_none (b2 o) ?_⟩
      rintro ⟨id, x1, i1, hx1, hi1, hv1, hg1⟩
      obtain ⟨k1, k2⟩ := kill_spec _ _ _ _ hx1
      have := ho.inj id x1 i1 _ x0 i0 k1 hi1 e1 e2 hv1 e4.symm hg1
      rw [this] at k2
      exact k2 (List.getElem_mem hjl)
    · have hjl : j < (frIds g bl p).length := by rw [← H.len2]; exact (List.getElem?_eq_some_iff.1 hi).1
      have hjl' : j' < (frIds g bl p).length := by rw [← H.len2]; exact (List.getElem?_eq_some_iff.1 hi').1
      obtain ⟨i0, x0, e1, e2, e3, e4⟩ := H.info j _ i (List.getElem?_eq_getElem hjl) hi
      obtain ⟨i1, x1, d1, d2, d3, d4⟩ := H.info j' _ i' (List.getElem?_eq_getElem hjl') hi'
      have := ho.inj _ x0 i0 _ x1 i1 e1 e2 d1 d2 (by rw [← e4]; exact hv) (by rw [← d4]; exact hv') (by rw [← e3, ← d3]; exact hgg)
      exact nodupN_spec hnd j j' _ (List.getElem?_eq_getElem hjl) (by rw [this]; exact List.getElem?_eq_getElem hjl')
  · cases h

theorem ret_ok {m0 m : Mem} {k : Nat} {w0 w : World} {bl : Blks} {p r : PV} {v : Value} (h : expoAll bl p = some r) (hr : Rep m k p v) (hf : FrzOk m w) (ho : Owns w0.heap.size m k w bl) (hb : Below w0.heap.size w0 w) {N : Nat} (hg : Grow w0.heap.size N m0 m) : RetOk m0 w0 w r v := by
  unfold expoAll at h
  split at h
  · rename_i hq
    cases h
    exact ret_okG hq hr hf ho hb hg
  · exact ret_okG h hr hf ho hb hg

def resF (tmps : Array Value) : ResultVar → Sem Value
  | .tmp t => pure (tmps.getD t undef)
  | .cell a t => do loadVar t (← asAddr (tmps.getD a undef))

theorem cell_run {P : Program} {tmps : Array Value} {a : Nat} {t : TypeId} {u : Value} {w : World} (h : (Instr.loadAt t (tmps.getD a undef)).run P w = .ok u w) : (resF tmps (.cell a t)).run P w = .ok u w := by
  unfold Instr.loadAt Instr.sureAddr at h
  show (do loadVar t (← asAddr (tmps.getD a undef)) : Sem Value).run P w = _
  generalize tmps.getD a undef = x at h ⊢
  unfold asAddr
  split at h
  · exact h
  · simp at h

/-- the results' places -/
theorem res_run {P : Program} {fn : Func} {res : List RV} {B m k : _} {w : World} {st : St} {tmps : Array Value} (h : digRes P fn.results.toList = some res) (hs : ∀ t, Rep m k (st.sl.getD t .top) (tmps.getD t undef)) (he : EffIn B k m w st.bl) {p : PV} (hp : resO st res = some p) :
    ∃ v, (results fn tmps).run P w = .ok v w ∧ Rep m k p v := by
  have key : ∀ (l : List ResultVar) (ts : List RV), digRes P l = some ts → ∀ ps, mapO (RV.get st) ts = some ps → ∃ vs : List Value, (l.mapM (resF tmps)).run P w = Result.ok vs w ∧ vs.length = ps.length ∧ ∀ (i : Nat) (p : PV), ps[i]? = some p → Rep m k p (vs.getD i undef) := by
    intro l
    induction l with
    | nil => intro ts h ps hps; simp [digRes] at h; subst h; simp [mapO] at hps; subst hps; exact ⟨[], by simp, rfl, fun i p hp => by simp at hp⟩
    | cons x l ih =>
      have step : ∀ (r : RV) (ts' : List RV), digRes P l = some ts' → (∀ q, r.get st = some q → ∃ u, (resF tmps x).run P w = .ok u w ∧ Rep m k q u) → ∀ ps, mapO (RV.get st) (r :: ts') = some ps →
          ∃ vs : List Value, ((x :: l).mapM (resF tmps)).run P w = Result.ok vs w ∧ vs.length = ps.length ∧ ∀ (i : Nat) (p : PV), ps[i]? = some p → Rep m k p (vs.getD i undef) := by
        intro r ts' hts hx ps hps
        simp only [mapO] at hps
        split at hps
        · rename_i q hq
          split at hps
          · rename_i qs hqs
            cases hps
            obtain ⟨u, hu, hru⟩ := hx q hq
            obtain ⟨vs, e1, e2, e3⟩ := ih ts' hts qs hqs
            refine ⟨u :: vs, by rw [List.mapM_cons]; simp [hu, e1], by simp [e2], fun i p hp => ?_⟩
            cases i with
            | zero => simp at hp; subst hp; exact hru
            | succ i => simpa using e3 i p (by simpa using hp)
          · cases hps
        · cases hps
      intro ts h ps hps
      cases x with
      | tmp t =>
        simp only [digRes] at h
        split at h
        · rename_i ts' hts
          cases h
          exact step _ ts' hts (fun q hq => by simp only [RV.get] at hq; cases hq; exact ⟨_, by simp [resF], hs t⟩) ps hps
        · cases h
      | cell a t =>
        simp only [digRes] at h
        split at h
        · rename_i g i ts' hg hi hts
          split at h
          · rename_i h1
            cases h
            refine step _ ts' hts (fun q hq => ?_) ps hps
            simp only [RV.get] at hq
            obtain ⟨u, hu, hru⟩ := load_run he.pur hg hi h1 (hs a) hq
            exact ⟨u, cell_run hu, hru⟩
          · cases h
        · cases h
  have hrun : ∀ vs : List Value, (fn.results.toList.mapM (resF tmps)).run P w = Result.ok vs w → (results fn tmps).run P w = .ok (if h : vs.toArray.size = 1 then vs.toArray[0] else .tuple vs.toArray) w := by
    intro vs hv
    have hrs : results fn tmps = (do let vs ← fn.results.mapM (resF tmps); pure (if h : vs.size = 1 then vs[0] else .tuple vs)) := by
      unfold results
      congr 1
    rw [hrs, Array.mapM_eq_mapM_toList]
    simp only [Sem.run_bind, Sem.run_map, hv, Result.andThen_ok, Sem.run_pure]
  have tup : ∀ (ps : List PV) (vs : List Value), vs.length = ps.length → (∀ (i : Nat) (p : PV), ps[i]? = some p → Rep m k p (vs.getD i undef)) → Rep m k (.tup ps) (.tuple vs.toArray) := fun ps vs hl hr => .tup (by simp [hl]) (fun i p hp => by rw [getD_arr]; exact hr i p hp)
  match res, hp with
  | [r], hp =>
    simp only [resO] at hp
    obtain ⟨vs, e1, e2, e3⟩ := key _ _ h [p] (by simp [mapO, hp])
    match vs, e2 with
    | [v], _ => exact ⟨_, hrun _ e1, by simpa using e3 0 p rfl⟩
  | [], hp =>
    simp only [resO, mapO] at hp
    cases hp
    obtain ⟨vs, e1, e2, e3⟩ := key _ _ h [] rfl
    refine ⟨_, hrun _ e1, ?_⟩
    rw [dif_neg (by simp [e2])]
    exact tup _ _ e2 e3
  | r :: u :: rs, hp =>
    simp only [resO] at hp
    split at hp
    · rename_i ps hps
      cases hp
      obtain ⟨vs, e1, e2, e3⟩ := key _ _ h ps hps
      have hl := (mapO_spec hps).1
      refine ⟨_, hrun _ e1, ?_⟩
      rw [dif_neg (by simp at hl; simp [e2]; omega)]
      exact tup _ _ e2 e3
    · cases hp

/-- a function of which something is given -/
def ExtOk0 (P : Program) (f : Nat) (x : List PV → Option PV) : Prop :=
  ∀ args r, x args = some r → (∃ fn, P.funcs[f]? = some fn ∧ fn.body.isSome = true ∧ fn.name ≠ "runtime.NumGoroutine") ∧
    ∀ (m : Mem) (w : World) (vs : Array Value), args.length = vs.size → (∀ (i : Nat) (p : PV), args[i]? = some p → Rep m 0 p (vs.getD i undef)) → FrzOk m w →
      Calls P f vs w fun e w' => ∃ v, e = .returned v ∧ RetOk m w w' r v
def ExtOk (P : Program) (f : Nat) (x : List PV → Option PV) : Prop :=
  ∀ args r, x args = some r →
    ∀ (m : Mem) (w : World) (vs : Array Value), args.length = vs.size → (∀ (i : Nat) (p : PV), args[i]? = some p → Rep m 0 p (vs.getD i undef)) → FrzOk m w →
      CallsX P f vs w fun e w' => ∃ v, e = .returned v ∧ RetOk m w w' r v
theorem extOk_of {P : Program} {f : Nat} {x : List PV → Option PV} (h : ExtOk0 P f x) : ExtOk P f x := fun args r hx m w vs hl hr hf =>
  .inl ⟨(h args r hx).1, (h args r hx).2 m w vs hl hr hf⟩
/-- the same upon the caller's blocks -/
def ExtSOk (P : Program) (f : Nat) (x : List PV → Blks → Option (PV × Blks)) : Prop :=
  ∀ args bl p bl', x args bl = some (p, bl') → (∃ fn, P.funcs[f]? = some fn ∧ fn.body.isSome = true ∧ fn.name ≠ "runtime.NumGoroutine") ∧
    ∀ (B k : Nat) (m : Mem) (w : World) (vs : Array Value), args.length = vs.size → (∀ (i : Nat) (p : PV), args[i]? = some p → Rep m k p (vs.getD i undef)) → EffIn B k m w bl →
      Calls P f vs w fun e w' => ∃ v m' k', e = .returned v ∧ EffOut B k m w bl bl' p v m' w' k'
def FnOk (P : Program) (f : Nat) (fc : AFn) : Prop := match fc.ext with
  | some (.p x) => ExtOk P f x
  | some (.s x) => ExtSOk P f x
  | none => ∃ fn own ks, P.funcs[f]? = some fn ∧ digFn P own ks fn = some fc
theorem fnok {P : Program} {f : Nat} {fc : AFn} {fn : Func} {own : List Nat} {ks : List (List Nat)} (h1 : P.funcs[f]? = some fn) (h2 : digFn P own ks fn = some fc) : FnOk P f fc := by
  have : fc.ext = none := by
    unfold digFn at h2
    split at h2
    · split at h2
      · split at h2
        · cases h2
        · cases h2; rfl
      · cases h2
    · cases h2
  unfold FnOk
  rw [this]
  exact ⟨fn, own, ks, h1, h2⟩
def DOk (P : Program) (D : Nat → Option AFn) : Prop := ∀ f fc, D f = some fc → FnOk P f fc

/-- arguments in their slots -/
theorem args_slots {m : Mem} {k np nt : Nat} {args : List PV} {vs : Array Value} (hl : args.length = vs.size) (hargs : ∀ (i : Nat) (p : PV), args[i]? = some p → Rep m k p (vs.getD i undef)) (hnp : args.length = np) :
    (vs ++ Array.replicate (nt - vs.size) undef).size = (args ++ List.replicate (nt - np) PV.top).length ∧ ∀ t, Rep m k ((args ++ List.replicate (nt - np) PV.top).getD t .top) ((vs ++ Array.replicate (nt - vs.size) undef).getD t undef) := by
  refine ⟨by simp [hl, ← hnp], fun t => ?_⟩
  by_cases ht : t < args.length
  · have h1 := hargs t _ (List.getElem?_eq_getElem ht)
    rw [List.getD_eq_getElem?_getD, List.getElem?_append_left ht, List.getElem?_eq_getElem ht]
    rw [Array.getD_eq_getD_getElem?] at h1 ⊢
    rw [Array.getElem?_append_left (by omega)]
    exact h1
  · rw [List.getD_eq_getElem?_getD, List.getElem?_append_right (by omega)]
    have : ((List.replicate (nt - np) PV.top)[t - args.length]?).getD .top = .top := by
      rw [List.getElem?_replicate]; split <;> rfl
    rw [this]
    exact .top

theorem Owns.up {B k k' : Nat} {m : Mem} {w : World} {bl : Blks} (h : Owns B m k w bl) (hk : k ≤ k') : Owns B m k' w bl :=
  ⟨fun id x i hx hi => (h.at_ id x i hx hi).mono (MLe.refl _ _) hk (fun _ => rfl), h.base, h.inj⟩

/-- what is left of a call upon the caller's blocks -/
theorem endT_ok {B k k' : Nat} {m m' : Mem} {w w' : World} {bl bl' : Blks} {p : PV} {v : Value} (hin : EffIn B k m w bl) (hr : Rep m' k' p v) (he : EffIn B k' m' w' bl') (hnb : bl.length ≤ bl'.length) (hnk : bl.length ≤ k') (hb : Below B w w')
    (hg : Grow B bl.length m m') : ∃ m'' k'', EffOut B k m w bl (endT bl.length p bl').2 (endT bl.length p bl').1 v m'' w' k'' := by
  have hs : StOk B bl.length m' k' w' ⟨[p], bl'⟩ #[v] := ⟨rfl, fun t => by
    cases t with
    | zero => exact hr
    | succ t => exact .top, he, hnb, hnk⟩
  obtain ⟨m2, k2, s2, c2, b2⟩ := norm_ok [0] bl.length hs (Nat.le_refl _)
  have hp : (norm [0] bl.length ⟨[p], bl'⟩).sl = [p] := by
    unfold norm trimB
    split <;> simp [forget, hasN]
  have hr2 : Rep m2 k2 p v := by
    have := s2.sl 0
    rw [hp] at this
    exact this
  refine ⟨m2, max k k2, hr2.up (Nat.le_max_right _ _), ⟨fun b o u hu => by rw [c2]; exact hg.cell b o u hu, fun b i hb hi => ?_⟩, Nat.le_max_left _ _, s2.eff.frz, s2.eff.own.up (Nat.le_max_right _ _), hb, fun b o u hu => by rw [c2] at hu; exact hg.from_ b o u hu, s2.nb, s2.eff.fresh⟩
  have hlt : b < bl.length := by
    rcases Nat.lt_or_ge b bl.length with h | h
    · exact h
    · rw [hin.fresh b h] at hi; cases hi
  rw [b2 b hlt]
  exact hg.blk b i hlt hi

/-- FUNCTIONS DO WHAT THEIR PURE READING SAYS -/
theorem evF_sound {P : Program} {D : Nat → Option AFn} (hD : DOk P D) : ∀ n, CallOk P (evF D n)
  | 0 => ⟨fun f args r h => by simp [evF] at h, fun f args bl p bl' h => by simp [evF] at h⟩
  | n + 1 => by
    have ih := evF_sound hD n
    refine ⟨fun f args r h => ?_, fun f args bl p bl' h => ?_⟩
    · simp only [evF] at h
      split at h
      · rename_i fc hfc
        have hfo := hD f fc hfc
        unfold FnOk at hfo
        split at h
        · rename_i x hext
          rw [hext] at hfo
          exact hfo args r h
        · cases h
        rename_i hext
        rw [hext] at hfo
        obtain ⟨fn, own, ks, hfn, hdig⟩ := hfo
        unfold digFn at hdig
        split at hdig
        · rename_i c hbody
          split at hdig
          · rename_i ac ks' res hcode hres
            split at hdig
            · cases hdig
            · rename_i hname
              cases hdig
              split at h
              · rename_i hnp
                refine fun m w vs hl hargs hfrz => .inl ⟨⟨fn, hfn, by rw [hbody]; rfl, hname⟩, ?_⟩
                simp only at h hnp
                cases hout : evCode (evF D n) n ac ⟨args ++ List.replicate (fn.ntmps - (fn.params.size + fn.nfree)) .top, []⟩ with
                | none => rw [hout] at h; simp [endP] at h
                | some out =>
                  rw [hout] at h
                  refine calls_of_wp hfn hbody ?_
                  obtain ⟨q1, q2⟩ := args_slots (m := ⟨m.cell, noBlk⟩) (k := 0) (nt := fn.ntmps) hl (fun i p hp => (hargs i p hp).re (fun _ _ _ h => h)) hnp
                  have hs : StOk w.heap.size 0 ⟨m.cell, noBlk⟩ 0 w ⟨args ++ List.replicate (fn.ntmps - (fn.params.size + fn.nfree)) .top, []⟩ (vs ++ Array.replicate (fn.ntmps - vs.size) undef) :=
                    ⟨q1, q2, ⟨⟨fun b o u hu => hfrz.1 b o u hu, hfrz.2⟩, ⟨fun id x i hx => by simp at hx, fun id x i hx => by simp at hx, fun id x i id' x' i' hx => by simp at hx⟩, Nat.le_refl _, fun _ _ => rfl⟩, Nat.zero_le _, Nat.le_refl _⟩
                  have fin : ∀ (st' : St) (p : PV), resO st' res = some p → expoAll st'.bl p = some r → ∀ m' k' w' a', Fin w.heap.size 0 ⟨m.cell, noBlk⟩ w { tmps := vs ++ Array.replicate (fn.ntmps - vs.size) undef, defers := [] } st' m' k' w' a' →
                      a'.defers = [] ∧ ∃ v, (results fn a'.tmps).run P w' = .ok v w' ∧ (fun e w' => ∃ v, e = Ending.returned v ∧ RetOk m w w' r v) (.returned v) w' := by
                    intro st' p hp hex m' k' w' a' f
                    obtain ⟨v, h1, h2⟩ := res_run (P := P) hres f.st.sl f.st.eff hp
                    exact ⟨f.defers, v, h1, v, rfl, ret_ok hex h2 f.st.eff.frz f.st.eff.own f.bel ⟨fun b o u hu => f.grow.cell b o u hu, fun b o u hu => f.grow.from_ b o u hu, fun b i hb => absurd hb (Nat.not_lt_zero _)⟩⟩
                  refine code_sound (B := w.heap.size) ih n c ks ks' ac hcode _ out _ w ⟨m.cell, noBlk⟩ 0 _ hout hs ?_
                  cases out with
                  | normal st' =>
                    simp only [endP] at h
                    split at h
                    · rename_i p hp; exact fun m' k' w' a' f => fin st' p hp h m' k' w' a' f
                    · cases h
                  | ret st' =>
                    simp only [endP] at h
                    split at h
                    · rename_i p hp; exact fun m' k' w' a' f => fin st' p hp h m' k' w' a' f
                    · cases h
                  | exit id st' => simp [endP] at h
              · cases h
          · cases hdig
        · cases hdig
      · cases h
    · simp only [evF] at h
      split at h
      · rename_i fc hfc
        have hfo := hD f fc hfc
        unfold FnOk at hfo
        split at h
        · rename_i x hext
          rw [hext] at hfo
          exact hfo args bl p bl' h
        · cases h
        rename_i hext
        rw [hext] at hfo
        obtain ⟨fn, own, ks, hfn, hdig⟩ := hfo
        unfold digFn at hdig
        split at hdig
        · rename_i c hbody
          split at hdig
          · rename_i ac ks' res hcode hres
            split at hdig
            · cases hdig
            · rename_i hname
              cases hdig
              split at h
              · rename_i hnp
                refine ⟨⟨fn, hfn, by rw [hbody]; rfl, hname⟩, fun B k m w vs hl hargs hin => ?_⟩
                simp only at h hnp
                cases hout : evCode (evF D n) n ac ⟨args ++ List.replicate (fn.ntmps - (fn.params.size + fn.nfree)) .top, bl⟩ with
                | none => rw [hout] at h; simp [endS] at h
                | some out =>
                  rw [hout] at h
                  refine calls_of_wp hfn hbody ?_
                  obtain ⟨q1, q2⟩ := args_slots (m := m) (k := max k bl.length) (nt := fn.ntmps) hl (fun i p hp => (hargs i p hp).up (Nat.le_max_left _ _)) hnp
                  have hs : StOk B bl.length m (max k bl.length) w ⟨args ++ List.replicate (fn.ntmps - (fn.params.size + fn.nfree)) .top, bl⟩ (vs ++ Array.replicate (fn.ntmps - vs.size) undef) :=
                    ⟨q1, q2, ⟨hin.frz, hin.own.up (Nat.le_max_left _ _), hin.hB, hin.fresh⟩, Nat.le_refl _, Nat.le_max_right _ _⟩
                  have fin : ∀ (st' : St) (p0 : PV), resO st' res = some p0 → endT bl.length p0 st'.bl = (p, bl') → ∀ m' k' w' a', Fin B bl.length m w { tmps := vs ++ Array.replicate (fn.ntmps - vs.size) undef, defers := [] } st' m' k' w' a' →
                      a'.defers = [] ∧ ∃ v, (results fn a'.tmps).run P w' = .ok v w' ∧ (fun e w' => ∃ v m' k', e = Ending.returned v ∧ EffOut B k m w bl bl' p v m' w' k') (.returned v) w' := by
                    intro st' p0 hp hex m' k' w' a' f
                    obtain ⟨v, h1, h2⟩ := res_run (P := P) hres f.st.sl f.st.eff hp
                    obtain ⟨m2, k2, h3⟩ := endT_ok hin h2 f.st.eff f.st.nb f.st.nk f.bel f.grow
                    rw [hex] at h3
                    exact ⟨f.defers, v, h1, v, m2, k2, rfl, h3⟩
                  refine code_sound (B := B) ih n c ks ks' ac hcode _ out _ w m (max k bl.length) _ hout hs ?_
                  cases out with
                  | normal st' =>
                    simp only [endS] at h
                    split at h
                    · rename_i p0 hp; exact fun m' k' w' a' f => fin st' p0 hp (Option.some.inj h) m' k' w' a' f
                    · cases h
                  | ret st' =>
                    simp only [endS] at h
                    split at h
                    · rename_i p0 hp; exact fun m' k' w' a' f => fin st' p0 hp (Option.some.inj h) m' k' w' a' f
                    · cases h
                  | exit id st' => simp [endS] at h
              · cases h
          · cases hdig
        · cases hdig
      · cases h

#print axioms evF_sound
end Go.Proofs.YtidkdiooempkpaaDoor
/- Arguments that come in, as pure values; the frame of a law. -/
namespace Go.Proofs.YtidkdiooempkpaaDoor
open Go Go.RowKit Go.ChangeShapes Go.WideShapes
set_option linter.unusedSectionVars false
variable [Bs]
set_option linter.unusedVariables false
set_option linter.unusedSimpArgs false

def layF (P : Program) : Nat → List Field → Option Nat
  | s, [] => some s
  | s, f :: r => if f.offset = s then layF P (s + P.cellsOf f.type) r else none

/-- plain data: no pointers, maps, functions -/
def pureT (P : Program) : Nat → TypeId → Bool
  | 0, _ => false
  | d + 1, t => match P.underlying t with
    | some .bool => true
    | some (.int _) => true
    | some .string => true
    | some (.slice e) => Nat.blt 0 (P.cellsOf e) && pureT P d e
    | some (.struct fs) => (match layF P 0 fs.toList with | some s => Nat.beq s (P.cellsOf t) | none => false) && fs.toList.all (fun f => pureT P d f.type)
    | some (.array k e) => Nat.beq (k * P.cellsOf e) (P.cellsOf t) && pureT P d e
    | _ => false

def HTF (h : TypeId → List PV → Prop) : List Field → List PV → Prop
  | [], ps => ps = []
  | f :: r, ps => ∃ p q, ps = p ++ q ∧ h f.type p ∧ HTF h r q
def HTA (h : List PV → Prop) : Nat → List PV → Prop
  | 0, ps => ps = []
  | k + 1, ps => ∃ p q, ps = p ++ q ∧ h p ∧ HTA h k q

/-- pure values of a type of plain data, cell by cell -/
def HT (P : Program) : Nat → TypeId → List PV → Prop
  | 0, _, _ => False
  | d + 1, t, ps => match P.underlying t with
    | some .bool => ∃ b, ps = [.bool b]
    | some (.int k) => ∃ i, ps = [.int k i] ∧ (Lit.int k i).wf = true
    | some .string => ∃ s, ps = [.str s] ∧ s.length ≤ maxLen
    | some (.slice e) => ∃ rows, ps = [.sl false (P.cellsOf e) rows] ∧ rows.length ≤ maxLen ∧ ∀ r ∈ rows, HT P d e r
    | some (.struct fs) => HTF (HT P d) fs.toList ps
    | some (.array k e) => HTA (HT P d e) k ps
    | _ => False

/-- a parameter of a type of plain data -/
def ArgT (P : Program) (d : Nat) (t : TypeId) (p : PV) : Prop :=
  match P.underlying t with
  | some (.struct _) => ∃ ps, p = .agg ps ∧ HT P d t ps
  | some (.array _ _) => ∃ ps, p = .agg ps ∧ HT P d t ps
  | _ => HT P d t [p]

/-- all memory, frozen -/
noncomputable def allM (w : World) : Mem := ⟨addCells (fun _ _ => none) w (fun _ => True), noBlk⟩
theorem allM_frz (w : World) (hB : (∀ b o v, Bs.cell b o = some v → (allM w).cell b o = some v) ∧ ∀ g ob, Bs.obj g = some ob → (∃ u, Bs.cell g 0 = some u) ∧ w.heap[g]? = some ob) : FrzOk (allM w) w := ⟨fun b o v hv => addCells_are (gs := fun _ => True) hv, hB⟩
theorem allM_cell {w : World} {b o : Nat} {v : Value} (h : w.cell? ⟨b, o, none⟩ = some v) (h1 : v.oneCell' = true) : (allM w).cell b o = some v :=
  addCells_new (c := fun _ _ => none) (gs := fun _ => True) (fun u hu => by cases hu) trivial h h1

section
variable {H : Type} {enc : TypeId × Value → H} {P : Program} {w : World} {base : Nat} {spare : Nat → Bool} {held : Bool}

/-- a list of values read as pure ones -/
structure RdL (w : World) (cs : List Value) (ps : List PV) : Prop where
  len : ps.length = cs.length
  get : ∀ (i : Nat) (p : PV), ps[i]? = some p → ∃ v, cs[i]? = some v ∧ v.oneCell' = true ∧ Rep (allM w) 0 p v

theorem RdL.append {cs1 cs2 : List Value} {ps1 ps2 : List PV} (h1 : RdL w cs1 ps1) (h2 : RdL w cs2 ps2) : RdL w (cs1 ++ cs2) (ps1 ++ ps2) := by
  refine ⟨by simp [h1.len, h2.len], fun i p hp => ?_⟩
  by_cases c : i < ps1.length
  · rw [List.getElem?_append_left c] at hp
    obtain ⟨v, g1, g2⟩ := h1.get i p hp
    exact ⟨v, by rw [List.getElem?_append_left (by rw [← h1.len]; exact c)]; exact g1, g2⟩
  · rw [List.getElem?_append_right (by omega)] at hp
    obtain ⟨v, g1, g2⟩ := h2.get _ p hp
    exact ⟨v, by rw [List.getElem?_append_right (by rw [← h1.len]; omega), ← h1.len]; exact g1, g2⟩

theorem RdL.one {v : Value} {p : PV} (h1 : v.oneCell' = true) (h : Rep (allM w) 0 p v) : RdL w [v] [p] :=
  ⟨rfl, fun i q hq => by
    cases i with
    | zero => simp at hq; subst hq; exact ⟨v, rfl, h1, h⟩
    | succ i => simp at hq⟩

theorem rows_ex {Q : Nat → List PV → Prop} : ∀ (n : Nat), (∀ i, i < n → ∃ r, Q i r) → ∃ L : List (List PV), L.length = n ∧ ∀ (i : Nat) (r : List PV), L[i]? = some r → Q i r
  | 0, _ => ⟨[], rfl, fun i o h => by simp at h⟩
  | n + 1, h => by
    obtain ⟨L, hl, hL⟩ := rows_ex n (fun i hi => h i (by omega))
    obtain ⟨o, ho⟩ := h n (by omega)
    refine ⟨L ++ [o], by simp [hl], fun i o' hi => ?_⟩
    by_cases hin : i < n
    · rw [List.getElem?_append_left (by omega)] at hi
      exact hL i o' hi
    · have hlt := (List.getElem?_eq_some_iff.1 hi).1
      simp [hl] at hlt
      obtain rfl : i = n := by omega
      rw [List.getElem?_append_right (by omega)] at hi
      simp [hl] at hi
      subst hi
      exact ho

theorem take_drop_split (cs : List Value) (s n : Nat) : cs.drop s = (cs.drop s).take n ++ cs.drop (s + n) := by
  rw [← List.drop_drop, List.take_append_drop]

theorem cell_spot {w : World} {b off : Nat} {spot : Option Nat} {v : Value} (h : w.cell? ⟨b, off, spot⟩ = some v) : spot = none := World.cell?_spot h

/-- WHAT COMES IN READS AS PURE VALUES -/
theorem trod_rep : ∀ (d n : Nat) (t : TypeId) (cs : List Value) (x : DataW H × List MemPlace), DataW.trod enc P w base spare held n t cs = some x → pureT P d t = true → ∃ ps, RdL w cs ps ∧ HT P d t ps
  | 0, n, t, cs, x, _, hp => by simp [pureT] at hp
  | d + 1, n, t, cs, x, h, hp => by
    simp only [pureT] at hp
    simp only [HT]
    cases hu : P.underlying t with
    | none => rw [hu] at hp; cases hp
    | some ty =>
      rw [hu] at hp
      cases ty <;> first | (simp at hp; done) | skip
      case bool =>
        obtain ⟨b, rfl, _⟩ := DataW.trod_bool hu h
        exact ⟨[.bool b], .one rfl .bool, b, rfl⟩
      case int k =>
        obtain ⟨i, rfl, _, hw⟩ := DataW.trod_int hu h
        exact ⟨[.int k i], .one rfl .int, i, rfl, hw⟩
      case string =>
        obtain ⟨s, rfl, _, hs⟩ := DataW.trod_string hu h
        exact ⟨[.str s.data.toList], .one rfl .str, _, rfl, by simpa using hs⟩
      case slice e =>
        simp only [Bool.and_eq_true] at hp
        obtain ⟨hce, hp⟩ := hp
        have hce' : 0 < P.cellsOf e := by simpa [Nat.blt_eq] using hce
        rcases DataW.trod_slice hu h with ⟨rfl, _⟩ | ⟨a, len, cap, elems, rest, n', _, rfl, _, _, hl, hm, hlen, hel, _⟩
        · exact ⟨[.sl false (P.cellsOf e) []], .one rfl (.slz (by simp [maxLen]) (fun h => by cases h)), [], rfl, by simp [maxLen], by simp⟩
        · have hrow : ∀ i, i < len → ∃ r : List PV, ∃ cs' : List Value, cs'.length = P.cellsOf e ∧ (∀ j, j < P.cellsOf e → w.cell? ((a.add (i * P.cellsOf e)).add j) = cs'[j]?) ∧ RdL w cs' r ∧ HT P d e r := by
            intro i hi
            have h1 := hel i hi
            rw [List.getElem?_eq_getElem (by omega)] at h1
            cases hc : w.cells? base (a.add (i * P.cellsOf e)) (P.cellsOf e) with
            | none => rw [hc] at h1; cases h1
            | some cs' =>
              rw [hc] at h1
              simp only [Option.bind_some] at h1
              obtain ⟨r, hr1, hr2⟩ := trod_rep d n' e cs' _ h1 hp
              obtain ⟨_, hcl, hat⟩ := World.cells?_some hc
              exact ⟨r, cs', hcl, hat, hr1, hr2⟩
          obtain ⟨rows, hrl, hrows⟩ := rows_ex len hrow
          have hht : ∀ r ∈ rows, HT P d e r := fun r hr => by
            obtain ⟨i, hi⟩ := List.getElem?_of_mem hr
            obtain ⟨_, _, _, _, h4⟩ := hrows i r hi
            exact h4
          have hrlen : ∀ r ∈ rows, r.length = P.cellsOf e := fun r hr => by
            obtain ⟨i, hi⟩ := List.getElem?_of_mem hr
            obtain ⟨cs', h1, _, h3, _⟩ := hrows i r hi
            rw [h3.len, h1]
          refine ⟨[.sl false (P.cellsOf e) rows], .one rfl ?_, rows, rfl, by omega, hht⟩
          by_cases hz : len = 0
          · subst hz
            have : rows = [] := List.eq_nil_of_length_eq_zero hrl
            subst this
            exact .slz hm (fun h => by cases h)
          · by_cases hc0 : P.cellsOf e = 0
            · omega
            · obtain ⟨b, off, spot⟩ := a
              have hcell : ∀ (i : Nat) (row : List PV) (j : Nat) (p : PV), rows[i]? = some row → row[j]? = some p → ∃ u, w.cell? ((⟨b, off, spot⟩ : Addr).add (i * P.cellsOf e + j)) = some u ∧ u.oneCell' = true ∧ Rep (allM w) 0 p u := by
                intro i row j p hi hj
                obtain ⟨cs', h1, h2, h3, _⟩ := hrows i row hi
                obtain ⟨u, g1, g2, g3⟩ := h3.get j p hj
                have hjl : j < P.cellsOf e := by rw [← h1]; exact (List.getElem?_eq_some_iff.1 g1).1
                refine ⟨u, ?_, g2, g3⟩
                rw [← Go.Deep.add_add, h2 j hjl]
                exact g1
              have hspot : spot = none := by
                have h0 : ∃ row, rows[0]? = some row := ⟨_, List.getElem?_eq_getElem (by omega)⟩
                obtain ⟨row, hrow0⟩ := h0
                have hl0 := hrlen row (List.mem_of_getElem? hrow0)
                have hj0 : ∃ p, row[0]? = some p := ⟨_, List.getElem?_eq_getElem (by omega)⟩
                obtain ⟨p, hp0⟩ := hj0
                obtain ⟨u, g1, _⟩ := hcell 0 row 0 p hrow0 hp0
                simp [Addr.add] at g1
                exact cell_spot g1
              subst hspot
              have := Rep.sl (m := allM w) (k := 0) (ex := false) (e := P.cellsOf e) (rows := rows) (b := b) (off := off) (cap := cap) (vals := fun i j => (w.cell? ⟨b, off + (i * P.cellsOf e + j), none⟩).getD undef)
                (by omega) hm (fun h => by cases h) hrlen
                (fun i j row p hi hj => by
                  obtain ⟨u, g1, g2, _⟩ := hcell i row j p hi hj
                  rw [Addr.add_lit] at g1
                  rw [g1, Nat.add_assoc]
                  exact allM_cell g1 g2)
                (fun i j row p hi hj => by
                  obtain ⟨u, g1, _, g3⟩ := hcell i row j p hi hj
                  rw [Addr.add_lit] at g1
                  rw [g1]
                  exact g3)
              rw [hrl] at this
              exact this
      case struct fs =>
        simp only [Bool.and_eq_true] at hp
        obtain ⟨hlay, hall⟩ := hp
        obtain ⟨xs, n', _, _, hcl, hxl, hf⟩ := DataW.trod_struct hu h
        have key : ∀ (l : List Field) (s : Nat), (∀ f ∈ l, pureT P d f.type = true) → (∀ f ∈ l, ∃ y, DataW.trod enc P w base spare held n' f.type ((cs.drop f.offset).take (P.cellsOf f.type)) = some y) → layF P s l = some cs.length →
            ∃ ps, RdL w (cs.drop s) ps ∧ HTF (HT P d) l ps := by
          intro l
          induction l with
          | nil =>
            intro s _ _ hlay
            simp [layF] at hlay
            refine ⟨[], ⟨by simp [hlay], fun i p hp => by simp at hp⟩, rfl⟩
          | cons f l ih =>
            intro s hpf hft hlay
            simp only [layF] at hlay
            split at hlay
            · rename_i hoff
              obtain ⟨y, hy⟩ := hft f (by simp)
              obtain ⟨p1, hp1, ht1⟩ := trod_rep d n' f.type _ y hy (hpf f (by simp))
              obtain ⟨p2, hp2, ht2⟩ := ih (s + P.cellsOf f.type) (fun g hg => hpf g (by simp [hg])) (fun g hg => hft g (by simp [hg])) hlay
              refine ⟨p1 ++ p2, ?_, p1, p2, rfl, ht1, ht2⟩
              rw [take_drop_split cs s (P.cellsOf f.type)]
              rw [hoff] at hp1
              exact hp1.append hp2
            · cases hlay
        have hlay' : layF P 0 fs.toList = some cs.length := by
          cases hq : layF P 0 fs.toList with
          | none => rw [hq] at hlay; cases hlay
          | some s =>
            rw [hq] at hlay
            simp only at hlay
            have : s = P.cellsOf t := by simpa using hlay
            rw [hcl, this]
        have := key fs.toList 0 (fun f hf' => List.all_eq_true.1 hall f hf') (fun f hf' => by
          obtain ⟨i, hi⟩ := List.getElem?_of_mem hf'
          have hi' : fs[i]? = some f := by simpa using hi
          have h1 := hf i f hi'
          have hlt : i < xs.length := by rw [hxl]; exact (Array.getElem?_eq_some_iff.1 hi').1
          exact ⟨xs[i], by rw [h1, List.getElem?_eq_getElem hlt]⟩) hlay'
        simpa using this
      case array k e =>
        simp only [Bool.and_eq_true] at hp
        obtain ⟨hk, hpe⟩ := hp
        obtain ⟨xs, n', _, _, hcl, hxl, hf⟩ := DataW.trod_array hu h
        have hk' : k * P.cellsOf e = cs.length := by rw [hcl]; exact Nat.eq_of_beq_eq_true hk
        have key : ∀ (r i : Nat), i + r = k → ∃ ps, RdL w (cs.drop (i * P.cellsOf e)) ps ∧ HTA (HT P d e) r ps := by
          intro r
          induction r with
          | zero =>
            intro i hi
            have : i = k := by omega
            subst this
            exact ⟨[], ⟨by simp [hk'], fun i p hp => by simp at hp⟩, rfl⟩
          | succ r ih =>
            intro i hi
            have h1 := hf i (by omega)
            rw [List.getElem?_eq_getElem (by omega)] at h1
            obtain ⟨p1, hp1, ht1⟩ := trod_rep d n' e _ _ h1 hpe
            obtain ⟨p2, hp2, ht2⟩ := ih (i + 1) (by omega)
            refine ⟨p1 ++ p2, ?_, p1, p2, rfl, ht1, ht2⟩
            rw [take_drop_split cs (i * P.cellsOf e) (P.cellsOf e)]
            rw [Nat.add_mul, Nat.one_mul] at hp2
            exact hp1.append hp2
        have := key k 0 (by omega)
        simpa using this

def ArgL (P : Program) (d : Nat) : List TypeId → List PV → Prop
  | [], [] => True
  | t :: ts, p :: ps => ArgT P d t p ∧ ArgL P d ts ps
  | _, _ => False

/-- one argument -/
theorem arg_rep {d : Nat} {t : TypeId} {v : Value} {x : DataW H} {pl : List MemPlace} {r : Reach} {bb : Nat} (h : DataW.Trod enc P w base spare held t v x pl) (hv : Value.okWide P w r bb t v) (hp : pureT P d t = true) : ∃ p, ArgT P d t p ∧ Rep (allM w) 0 p v := by
  obtain ⟨n, hn⟩ := h
  obtain ⟨ps, h1, h2⟩ := trod_rep d n t _ _ hn hp
  have single : v.cells = #[v] → HT P d t ps → ∃ p, ps = [p] ∧ Rep (allM w) 0 p v := by
    intro hc _
    rw [hc] at h1
    have hl := h1.len
    simp at hl
    obtain ⟨p, rfl⟩ := List.length_eq_one_iff.1 hl
    obtain ⟨u, g1, _, g3⟩ := h1.get 0 p rfl
    simp at g1
    subst g1
    exact ⟨p, rfl, g3⟩
  have agg : ∀ cs, v = .agg cs → Rep (allM w) 0 (.agg ps) v := by
    rintro cs rfl
    refine .agg (by simpa [Value.cells] using h1.len) (fun i p hp => ?_)
    obtain ⟨u, g1, _, g3⟩ := h1.get i p hp
    have : cs[i]? = some u := by simpa [Value.cells] using g1
    rw [Array.getD_eq_getD_getElem?, this]
    exact g3
  unfold ArgT
  cases hu : P.underlying t with
  | none => cases d <;> simp [pureT, hu] at hp
  | some ty =>
    have one : v.cells = #[v] → HT P d t ps → ∃ p, HT P d t [p] ∧ Rep (allM w) 0 p v := fun hc hh => by
      obtain ⟨p, hp1, hp2⟩ := single hc hh
      subst hp1
      exact ⟨p, hh, hp2⟩
    cases ty <;> first
      | (cases d <;> simp [pureT, hu] at hp; done)
      | skip
    case bool => obtain ⟨b, rfl⟩ := okWide_bool hu hv; exact one rfl h2
    case int k => obtain ⟨b, rfl⟩ := okWide_int hu hv; exact one rfl h2
    case string => obtain ⟨b, rfl⟩ := okWide_string hu hv; exact one rfl h2
    case slice e => obtain ⟨a, l, c, rfl⟩ := okWide_slice hu hv; exact one rfl h2
    case struct fs =>
      unfold Value.okWide at hv
      rw [hu] at hv
      obtain ⟨cs, hcs, _⟩ := hv
      exact ⟨.agg ps, ⟨ps, rfl, h2⟩, agg cs hcs⟩
    case array k e =>
      unfold Value.okWide at hv
      rw [hu] at hv
      obtain ⟨cs, hcs, _⟩ := hv
      exact ⟨.agg ps, ⟨ps, rfl, h2⟩, agg cs hcs⟩

/-- all arguments -/
theorem args_rep {d : Nat} {r : Reach} {bb : Nat} : ∀ (ts : List TypeId) (vs : List Value) (ds : List (DataW H)) (pl : List MemPlace), DataW.TrodAll enc P w base spare held ts vs ds pl →
    (∀ (j : Nat) (t : TypeId) (v : Value), ts[j]? = some t → vs[j]? = some v → Value.okWide P w r bb t v) → ts.all (pureT P d) = true →
    ∃ ps : List PV, ps.length = vs.length ∧ (∀ (i : Nat) (p : PV), ps[i]? = some p → Rep (allM w) 0 p (vs.getD i undef)) ∧ ArgL P d ts ps
  | [], vs, ds, pl, h, _, _ => by
    obtain ⟨rfl, _, _⟩ := trodAll_nil h
    exact ⟨[], rfl, fun i p hp => by simp at hp, trivial⟩
  | t :: ts, vs, ds, pl, h, hv, hp => by
    obtain ⟨v, vs', x, ds', p, q, rfl, rfl, rfl, h1, h2⟩ := trodAll_cons h
    simp only [List.all_cons, Bool.and_eq_true] at hp
    obtain ⟨p0, a1, a2⟩ := arg_rep h1 (hv 0 t v rfl rfl) hp.1
    obtain ⟨ps, b1, b2, b3⟩ := args_rep ts vs' ds' q h2 (fun j t v ht hv' => hv (j + 1) t v (by simpa using ht) (by simpa using hv')) hp.2
    refine ⟨p0 :: ps, by simp [b1], fun i p hp => ?_, a1, b3⟩
    cases i with
    | zero => simp at hp; subst hp; simpa using a2
    | succ i => simpa using b2 i p (by simpa using hp)

/-- what is read below the call's own memory reads the same -/
theorem below_all {W' : World} (hl : laidOutB P = true) (hb : Below w.heap.size w W') : ∀ (ts : List TypeId) (vs : List Value) (ds : List (DataW H)) (pl : List MemPlace), DataW.TrodAll enc P w 0 (fun _ => true) true ts vs ds pl →
    ts.all (fun t => P.readableRec t && decide (t < P.types.size)) = true → DataW.TrodAll enc P W' 0 (fun b => decide (b < w.heap.size)) true ts vs ds pl
  | [], vs, ds, pl, h, _ => by
    obtain ⟨rfl, rfl, rfl⟩ := trodAll_nil h
    exact trodAll_mk0
  | t :: ts, vs, ds, pl, h, hp => by
    obtain ⟨v, vs', x, ds', p, q, rfl, rfl, rfl, h1, h2⟩ := trodAll_cons h
    simp only [List.all_cons, Bool.and_eq_true, decide_eq_true_eq] at hp
    have hlt : ∀ x ∈ p, x.block < w.heap.size := by obtain ⟨m, hm⟩ := h1; exact DataW.trod_lt m _ _ _ hm
    exact trodAll_cons_mk (Below.trod hl hp.1.1 hp.1.2 h1 hb hlt) (below_all hl hb ts vs' ds' q h2 (by simpa using hp.2))

end

/-- A LAW'S CALL -/
theorem law_calls {P : Program} {D : Nat → Option AFn} (hD : DOk P D) {n f : Nat} {ps : List PV} {vs : Array Value} {w : World} (hB : (∀ b o v, Bs.cell b o = some v → (allM w).cell b o = some v) ∧ ∀ g ob, Bs.obj g = some ob → (∃ u, Bs.cell g 0 = some u) ∧ w.heap[g]? = some ob) (hl : ps.length = vs.toList.length) (hr : ∀ (i : Nat) (p : PV), ps[i]? = some p → Rep (allM w) 0 p (vs.toList.getD i undef))
    (h : (evF D n).p f ps = some (.bool true)) (hbd : ∃ fn, P.funcs[f]? = some fn ∧ fn.body.isSome = true) : Calls P f vs w fun e w' => e = .returned (.bool true) ∧ Below w.heap.size w w' := by
  have hc := (evF_sound hD n).1 f ps _ h
  have hcx := hc (allM w) w vs (by simpa using hl) (fun i p hp => by rw [getD_toList]; exact hr i p hp) (allM_frz w hB)
  have hcy : Calls P f vs w fun e w' => ∃ v, e = .returned v ∧ RetOk (allM w) w w' (.bool true) v := by
    rcases hcx with ⟨_, hc⟩ | ⟨⟨fn, h1, h2⟩, _⟩
    · exact hc
    · obtain ⟨fn', h3, h4⟩ := hbd
      rw [h1] at h3
      cases h3
      rw [h2] at h4
      cases h4
  refine hcy.mono ?_
  rintro e w' ⟨v, rfl, hb, c', infos, _, _, _, _, _, _, hrep⟩
  have := bool_inv (hrep 0 (fun j => infos[j]?) (fun j i hi => by simpa using hi))
  subst this
  exact ⟨rfl, hb⟩

#print axioms law_calls
end Go.Proofs.YtidkdiooempkpaaDoor
/- Functions, whatever the fuel. -/
namespace Go.Proofs.YtidkdiooempkpaaDoor
open Go Go.RowKit
set_option linter.unusedVariables false
set_option linter.unusedSimpArgs false

/-- a family of calls that grows, and one that is their limit -/
structure Lim (C : Nat → Cl) (E : Cl) : Prop where
  mono : ∀ n m f a r, n ≤ m → (C n).p f a = some r → (C m).p f a = some r
  lim : ∀ f a r, E.p f a = some r → ∃ n, (C n).p f a = some r
  monoS : ∀ n m f a bl r, n ≤ m → (C n).s f a bl = some r → (C m).s f a bl = some r
  limS : ∀ f a bl r, E.s f a bl = some r → ∃ n, (C n).s f a bl = some r

section
variable {C : Nat → Cl} {E : Cl} (L : Lim C E)
include L

theorem callP_lim {bl : Blks} {ow : Bool} {f : Nat} {args : List PV} {x : PV × List Blk} (h : callP E.p bl ow f args = some x) : ∃ n, ∀ m, n ≤ m → callP (C m).p bl ow f args = some x := by
  unfold callP at h
  split at h
  · rename_i hlt
    split at h
    · rename_i r hr
      obtain ⟨n, hn⟩ := L.lim _ _ _ hr
      refine ⟨n, fun m hm => ?_⟩
      unfold callP
      rw [if_pos hlt, L.mono n m _ _ _ hm hn]
      exact h
    · cases h
  · rename_i hlt
    split at h
    · rename_i qs hqs
      split at h
      · rename_i r hr
        obtain ⟨n, hn⟩ := L.lim _ _ _ hr
        refine ⟨n, fun m hm => ?_⟩
        unfold callP
        rw [if_neg hlt, hqs]
        simp only
        rw [L.mono n m _ _ _ hm hn]
        exact h
      · cases h
    · cases h

theorem evPur_lim {sl : List PV} {bl : Blks} {ao : AOp} {x : PV × List Blk} (h : evPur E sl bl ao = some x) : ∃ n, ∀ m, n ≤ m → evPur (C m) sl bl ao = some x := by
  cases ao with
  | call ow f args => exact callP_lim L h
  | calld ow f args =>
    simp only [evPur] at h ⊢
    split at h
    · rename_i g caps hf
      obtain ⟨n, hn⟩ := callP_lim L h
      exact ⟨n, fun m hm => by simpa only using hn m hm⟩
    · cases h
  | _ => exact ⟨0, fun m _ => h⟩

theorem evEff_lim {sl : List PV} {bl : Blks} {ao : AOp} {x : PV × Blks} (h : evEff E sl bl ao = some x) : ∃ n, ∀ m, n ≤ m → evEff (C m) sl bl ao = some x := by
  cases ao with
  | callS f args =>
    simp only [evEff] at h ⊢
    split at h
    · rename_i p bl' hs
      obtain ⟨n, hn⟩ := L.limS _ _ _ _ hs
      exact ⟨n, fun m hm => by rw [L.monoS n m _ _ _ _ hm hn]; exact h⟩
    · cases h
  | calldS f args =>
    simp only [evEff] at h ⊢
    split at h
    · rename_i g caps hf
      split at h
      · rename_i p bl' hs
        obtain ⟨n, hn⟩ := L.limS _ _ _ _ hs
        exact ⟨n, fun m hm => by rw [L.monoS n m _ _ _ _ hm hn]; exact h⟩
      · cases h
    · cases h
  | _ => exact ⟨0, fun m _ => h⟩

theorem evOp_lim {st st' : St} {o : AOper} (h : evOp E st o = some st') : ∃ n, ∀ m, n ≤ m → evOp (C m) st o = some st' := by
  unfold evOp at h
  split at h
  · rename_i he
    split at h
    · rename_i p bl' hev
      obtain ⟨n, hn⟩ := evEff_lim L hev
      exact ⟨n, fun m hm => by unfold evOp; rw [if_pos he, hn m hm]; exact h⟩
    · cases h
  · rename_i he
    split at h
    · rename_i p ns hev
      obtain ⟨n, hn⟩ := evPur_lim L hev
      exact ⟨n, fun m hm => by unfold evOp; rw [if_neg he, hn m hm]; exact h⟩
    · cases h

theorem evOne_lim {st st' : St} {o : AOper} (h : evOne E st o = some st') : ∃ n, ∀ m, n ≤ m → evOne (C m) st o = some st' := by
  unfold evOne at h
  split at h
  · rename_i hg
    obtain ⟨n, hn⟩ := evOp_lim L h
    exact ⟨n, fun m hm => by unfold evOne; rw [hg]; exact hn m hm⟩
  · rename_i s want hg
    split at h
    · rename_i b hb
      split at h
      · rename_i hbw
        obtain ⟨n, hn⟩ := evOp_lim L h
        exact ⟨n, fun m hm => by unfold evOne; rw [hg]; simp only; rw [hb]; simp only; rw [if_pos hbw]; exact hn m hm⟩
      · rename_i hbw
        exact ⟨0, fun m _ => by unfold evOne; rw [hg]; simp only; rw [hb]; simp only; rw [if_neg hbw]; exact h⟩
    · rename_i cs hb
      exact ⟨0, fun m _ => by unfold evOne; rw [hg]; simp only; rw [hb]; exact h⟩
    · cases h

theorem evOps_lim : ∀ {al : List AOper} {st st' : St}, evOps E al st = some st' → ∃ n, ∀ m, n ≤ m → evOps (C m) al st = some st'
  | [], st, st', h => ⟨0, fun m _ => h⟩
  | o :: al, st, st', h => by
    simp only [evOps] at h
    split at h
    · rename_i st1 h1
      obtain ⟨n1, hn1⟩ := evOne_lim L h1
      obtain ⟨n2, hn2⟩ := evOps_lim h
      exact ⟨max n1 n2, fun m hm => by simp only [evOps]; rw [hn1 m (by omega)]; exact hn2 m (by omega)⟩
    · cases h

theorem softGo_lim {soft : List Nat} : ∀ {al : List AOper} {i : Nat} {st : St} {x : List Nat × List Nat}, softGo E soft i al st = some x → ∃ n, ∀ m, n ≤ m → softGo (C m) soft i al st = some x
  | [], i, st, x, h => ⟨0, fun m _ => h⟩
  | o :: al, i, st, x, h => by
    simp only [softGo] at h
    split at h
    · rename_i st1 h1
      split at h
      · rename_i rd tg hgo
        obtain ⟨n1, hn1⟩ := evOne_lim L h1
        obtain ⟨n2, hn2⟩ := softGo_lim hgo
        exact ⟨max n1 n2, fun m hm => by simp only [softGo]; rw [hn1 m (by omega)]; simp only; rw [hn2 m (by omega)]; exact h⟩
      · cases h
    · cases h
theorem softChk_lim {soft : List Nat} {al : List AOper} {st : St} (h : softChk E soft al st = true) : ∃ n, ∀ m, n ≤ m → softChk (C m) soft al st = true := by
  unfold softChk at h
  split at h
  · rename_i rd tg hgo
    obtain ⟨n, hn⟩ := softGo_lim L hgo
    exact ⟨n, fun m hm => by unfold softChk; rw [hn m hm]; exact h⟩
  · cases h

omit L in
theorem evLoop_lim {b : St → Option Out} {bC : Nat → Nat → St → Option Out} {K : Nat} (hb : ∀ st out, b st = some out → ∃ n, ∀ m q, n ≤ m → K ≤ q → bC m q st = some out) {keep : List Nat} {n0 : Nat} :
    ∀ {k : Nat} {st : St} {out : Out}, evLoop b keep n0 k st = some out → ∃ n, ∀ m q j, n ≤ m → K ≤ q → k ≤ j → evLoop (bC m q) keep n0 j st = some out
  | 0, st, out, h => by simp [evLoop] at h
  | k + 1, st, out, h => by
    simp only [evLoop] at h
    split at h
    · rename_i st1 h1
      obtain ⟨n1, hn1⟩ := hb _ _ h1
      obtain ⟨n2, hn2⟩ := evLoop_lim hb h
      refine ⟨max n1 n2, fun m q j hm hq hj => ?_⟩
      obtain ⟨j', rfl⟩ : ∃ j', j = j' + 1 := ⟨j - 1, by omega⟩
      simp only [evLoop]
      rw [hn1 m q (by omega) hq]
      exact hn2 m q j' (by omega) hq (by omega)
    · rename_i r hne
      obtain ⟨n1, hn1⟩ := hb _ _ h
      refine ⟨n1, fun m q j hm hq hj => ?_⟩
      obtain ⟨j', rfl⟩ : ∃ j', j = j' + 1 := ⟨j - 1, by omega⟩
      simp only [evLoop]
      rw [hn1 m q hm hq]
      cases out with
      | normal st' => exact absurd h (hne st')
      | exit id st' => rfl
      | ret st' => rfl

theorem evCode_lim {k : Nat} : ∀ {ac : AC} {st : St} {out : Out}, evCode E k ac st = some out → ∃ n, ∀ m q, n ≤ m → k ≤ q → evCode (C m) q ac st = some out
  | .skip, st, out, h => ⟨0, fun m q _ _ => h⟩
  | .reg ops, st, out, h => by
    simp only [evCode] at h
    split at h
    · rename_i st1 h1
      obtain ⟨n, hn⟩ := evOps_lim L h1
      exact ⟨n, fun m q hm _ => by simp only [evCode]; rw [hn m hm]; exact h⟩
    · cases h
  | .regd soft ops, st, out, h => by
    simp only [evCode] at h
    split at h
    · rename_i st1 h1
      split at h
      · rename_i hck
        obtain ⟨n, hn⟩ := evOps_lim L h1
        obtain ⟨n2, hn2⟩ := softChk_lim L hck
        exact ⟨max n n2, fun m q hm _ => by simp only [evCode]; rw [hn m (by omega)]; simp only; rw [if_pos (hn2 m (by omega))]; exact h⟩
      · cases h
    · cases h
  | .seq a b, st, out, h => by
    simp only [evCode] at h
    split at h
    · rename_i st1 h1
      obtain ⟨n1, hn1⟩ := evCode_lim h1
      obtain ⟨n2, hn2⟩ := evCode_lim h
      exact ⟨max n1 n2, fun m q hm hq => by simp only [evCode]; rw [hn1 m q (by omega) hq]; exact hn2 m q (by omega) hq⟩
    · rename_i r hne
      obtain ⟨n1, hn1⟩ := evCode_lim h
      refine ⟨n1, fun m q hm hq => ?_⟩
      simp only [evCode]
      rw [hn1 m q hm hq]
      cases out with
      | normal st' => exact absurd h (hne st')
      | exit id st' => rfl
      | ret st' => rfl
  | .cond c a b, st, out, h => by
    simp only [evCode] at h
    split at h
    · rename_i t ht
      split at h
      · rename_i htt
        obtain ⟨n1, hn1⟩ := evCode_lim h
        exact ⟨n1, fun m q hm hq => by simp only [evCode]; rw [ht]; simp only; rw [if_pos htt]; exact hn1 m q hm hq⟩
      · rename_i htt
        obtain ⟨n1, hn1⟩ := evCode_lim h
        exact ⟨n1, fun m q hm hq => by simp only [evCode]; rw [ht]; simp only; rw [if_neg htt]; exact hn1 m q hm hq⟩
    · cases h
  | .block id a, st, out, h => by
    simp only [evCode] at h
    split at h
    · rename_i id' st1 h1
      obtain ⟨n1, hn1⟩ := evCode_lim h1
      exact ⟨n1, fun m q hm hq => by simp only [evCode]; rw [hn1 m q hm hq]; exact h⟩
    · rename_i r hne
      obtain ⟨n1, hn1⟩ := evCode_lim h
      refine ⟨n1, fun m q hm hq => ?_⟩
      simp only [evCode]
      rw [hn1 m q hm hq]
      cases out with
      | normal st' => rfl
      | exit id' st' => exact absurd h (hne id' st')
      | ret st' => rfl
  | .loop keep a, st, out, h => by
    simp only [evCode] at h
    obtain ⟨n, hn⟩ := evLoop_lim (bC := fun m q => evCode (C m) q a) (K := k) (fun st out h => evCode_lim h) h
    exact ⟨n, fun m q hm hq => by simp only [evCode]; exact hn m q q hm hq hq⟩
  | .exit id, st, out, h => ⟨0, fun m q _ _ => h⟩
  | .ret, st, out, h => ⟨0, fun m q _ _ => h⟩
  | .stuck, st, out, h => by simp [evCode] at h
end

theorem evF_monos {D : Nat → Option AFn} : ∀ (n : Nat), (∀ (f : Nat) (a : List PV) (r : PV), (evF D n).p f a = some r → ∀ m, n ≤ m → (evF D m).p f a = some r) ∧
    ∀ (f : Nat) (a : List PV) (bl : Blks) (r : PV × Blks), (evF D n).s f a bl = some r → ∀ m, n ≤ m → (evF D m).s f a bl = some r
  | 0 => ⟨fun f a r h m _ => by simp [evF] at h, fun f a bl r h m _ => by simp [evF] at h⟩
  | n + 1 => by
    obtain ⟨ih1, ih2⟩ := evF_monos (D := D) n
    have L : ∀ m', n ≤ m' → Lim (fun _ => evF D m') (evF D n) := fun m' hm => ⟨fun _ _ _ _ _ _ h => h, fun f a r h => ⟨0, ih1 f a r h m' hm⟩, fun _ _ _ _ _ _ _ h => h, fun f a bl r h => ⟨0, ih2 f a bl r h m' hm⟩⟩
    refine ⟨fun f a r h m hm => ?_, fun f a bl r h m hm => ?_⟩
    · obtain ⟨m', rfl⟩ : ∃ m', m = m' + 1 := ⟨m - 1, by omega⟩
      simp only [evF] at h ⊢
      split at h
      · rename_i fc hfc
        split at h
        · exact h
        · cases h
        · rename_i hext
          split at h
          · rename_i hnp
            rw [if_pos hnp]
            cases ho : evCode (evF D n) n fc.code ⟨a ++ List.replicate (fc.nt - fc.np) .top, []⟩ with
            | none => rw [ho] at h; simp [endP] at h
            | some out =>
              obtain ⟨N, hN⟩ := evCode_lim (L m' (by omega)) ho
              rw [hN N m' (Nat.le_refl _) (by omega), ← ho]
              exact h
          · cases h
      · cases h
    · obtain ⟨m', rfl⟩ : ∃ m', m = m' + 1 := ⟨m - 1, by omega⟩
      simp only [evF] at h ⊢
      split at h
      · rename_i fc hfc
        split at h
        · exact h
        · cases h
        · rename_i hext
          split at h
          · rename_i hnp
            rw [if_pos hnp]
            cases ho : evCode (evF D n) n fc.code ⟨a ++ List.replicate (fc.nt - fc.np) .top, bl⟩ with
            | none => rw [ho] at h; simp [endS] at h
            | some out =>
              obtain ⟨N, hN⟩ := evCode_lim (L m' (by omega)) ho
              rw [hN N m' (Nat.le_refl _) (by omega), ← ho]
              exact h
          · cases h
      · cases h

theorem evF_mono {D : Nat → Option AFn} (n f : Nat) (a : List PV) (r : PV) (h : (evF D n).p f a = some r) (m : Nat) (hm : n ≤ m) : (evF D m).p f a = some r := (evF_monos n).1 f a r h m hm

open Classical in
/-- what a function answers, with fuel enough -/
noncomputable def evE (D : Nat → Option AFn) (f : Nat) (a : List PV) : Option PV := if h : ∃ r n, (evF D n).p f a = some r then some h.choose else none
open Classical in
/-- the same upon the caller's blocks -/
noncomputable def evS (D : Nat → Option AFn) (f : Nat) (a : List PV) (bl : Blks) : Option (PV × Blks) := if h : ∃ r n, (evF D n).s f a bl = some r then some h.choose else none
noncomputable def evC (D : Nat → Option AFn) : Cl := ⟨evE D, evS D⟩
theorem evC_p (D : Nat → Option AFn) : (evC D).p = evE D := rfl
theorem evC_s (D : Nat → Option AFn) : (evC D).s = evS D := rfl

theorem evE_of {D : Nat → Option AFn} {n f : Nat} {a : List PV} {r : PV} (h : (evF D n).p f a = some r) : evE D f a = some r := by
  have hx : ∃ r n, (evF D n).p f a = some r := ⟨r, n, h⟩
  unfold evE
  rw [dif_pos hx]
  obtain ⟨m, hm⟩ := hx.choose_spec
  have h1 := evF_mono n f a r h (max n m) (Nat.le_max_left _ _)
  have h2 := evF_mono m f a _ hm (max n m) (Nat.le_max_right _ _)
  rw [h1] at h2
  exact h2.symm

theorem evS_of {D : Nat → Option AFn} {n f : Nat} {a : List PV} {bl : Blks} {r : PV × Blks} (h : (evF D n).s f a bl = some r) : evS D f a bl = some r := by
  have hx : ∃ r n, (evF D n).s f a bl = some r := ⟨r, n, h⟩
  unfold evS
  rw [dif_pos hx]
  obtain ⟨m, hm⟩ := hx.choose_spec
  have h1 := (evF_monos n).2 f a bl r h (max n m) (Nat.le_max_left _ _)
  have h2 := (evF_monos m).2 f a bl _ hm (max n m) (Nat.le_max_right _ _)
  rw [h1] at h2
  exact h2.symm

theorem evE_ex {D : Nat → Option AFn} {f : Nat} {a : List PV} {r : PV} (h : evE D f a = some r) : ∃ n, (evF D n).p f a = some r := by
  unfold evE at h
  split at h
  · rename_i hx
    obtain ⟨m, hm⟩ := hx.choose_spec
    cases h
    exact ⟨m, hm⟩
  · cases h
theorem evS_ex {D : Nat → Option AFn} {f : Nat} {a : List PV} {bl : Blks} {r : PV × Blks} (h : evS D f a bl = some r) : ∃ n, (evF D n).s f a bl = some r := by
  unfold evS at h
  split at h
  · rename_i hx
    obtain ⟨m, hm⟩ := hx.choose_spec
    cases h
    exact ⟨m, hm⟩
  · cases h

theorem evE_lim (D : Nat → Option AFn) : Lim (evF D) (evC D) := ⟨fun n m f a r hnm h => evF_mono n f a r h m hnm, fun f a r h => evE_ex h, fun n m f a bl r hnm h => (evF_monos n).2 f a bl r h m hnm, fun f a bl r h => evS_ex h⟩

/-- A FUNCTION, BY ITS CODE -/
theorem evE_intro {D : Nat → Option AFn} {f : Nat} {fc : AFn} {args : List PV} {r : PV} (k : Nat) (hD : D f = some fc) (hl : args.length = fc.np) (h : endP fc.res (evCode (evC D) k fc.code ⟨args ++ List.replicate (fc.nt - fc.np) .top, []⟩) = some r) (hx : fc.ext = none := by rfl) : evE D f args = some r := by
  cases ho : evCode (evC D) k fc.code ⟨args ++ List.replicate (fc.nt - fc.np) .top, []⟩ with
  | none => rw [ho] at h; simp [endP] at h
  | some out =>
    obtain ⟨N, hN⟩ := evCode_lim (evE_lim D) ho
    refine evE_of (n := max N k + 1) ?_
    simp only [evF, hD, hx]
    rw [if_pos hl, (evE_lim D |> fun L => by
      have := hN (max N k) (max N k) (Nat.le_max_left _ _) (Nat.le_max_right _ _)
      exact this : evCode (evF D (max N k)) (max N k) fc.code ⟨args ++ List.replicate (fc.nt - fc.np) .top, []⟩ = some out), ← ho]
    exact h

/-- THE SAME UPON THE CALLER'S BLOCKS -/
theorem evS_intro {D : Nat → Option AFn} {f : Nat} {fc : AFn} {args : List PV} {bl : Blks} {r : PV × Blks} (k : Nat) (hD : D f = some fc) (hl : args.length = fc.np) (h : endS fc.res bl.length (evCode (evC D) k fc.code ⟨args ++ List.replicate (fc.nt - fc.np) .top, bl⟩) = some r) (hx : fc.ext = none := by rfl) : evS D f args bl = some r := by
  cases ho : evCode (evC D) k fc.code ⟨args ++ List.replicate (fc.nt - fc.np) .top, bl⟩ with
  | none => rw [ho] at h; simp [endS] at h
  | some out =>
    obtain ⟨N, hN⟩ := evCode_lim (evE_lim D) ho
    refine evS_of (n := max N k + 1) ?_
    simp only [evF, hD, hx]
    rw [if_pos hl, (evE_lim D |> fun L => by
      have := hN (max N k) (max N k) (Nat.le_max_left _ _) (Nat.le_max_right _ _)
      exact this : evCode (evF D (max N k)) (max N k) fc.code ⟨args ++ List.replicate (fc.nt - fc.np) .top, bl⟩ = some out), ← ho]
    exact h

/-- a function of which something is given -/
theorem evE_ext {D : Nat → Option AFn} {f : Nat} {fc : AFn} {x : List PV → Option PV} {args : List PV} {r : PV} (hD : D f = some fc) (hx : fc.ext = some (.p x)) (h : x args = some r) : evE D f args = some r :=
  evE_of (n := 1) (by simp only [evF, hD, hx]; exact h)
theorem evS_ext {D : Nat → Option AFn} {f : Nat} {fc : AFn} {x : List PV → Blks → Option (PV × Blks)} {args : List PV} {bl : Blks} {r : PV × Blks} (hD : D f = some fc) (hx : fc.ext = some (.s x)) (h : x args bl = some r) : evS D f args bl = some r :=
  evS_of (n := 1) (by simp only [evF, hD, hx]; exact h)

/-- what lies in a world's memory at the beginning -/
noncomputable def bsC (w : World) : Nat → Nat → Option Value := (allM w).cell
noncomputable def bsO (w : World) : Nat → Option Obj := fun g => if (bsC w g 0).isSome then w.heap[g]? else none
theorem bsO_ok (w : World) : ∀ g ob, bsO w g = some ob → (∃ u, bsC w g 0 = some u) ∧ w.heap[g]? = some ob := by
  intro g ob h
  unfold bsO at h
  split at h
  · rename_i hs
    exact ⟨Option.isSome_iff_exists.1 hs, h⟩
  · cases h
theorem lawE_calls {P : Program} {D : Nat → Option AFn} {f : Nat} {ps : List PV} {vs : Array Value} {w : World} (hgl : ∀ g vs j v, gtab g = some vs → vs[j]? = some v → bsC w g j = some v) (hD : @DOk ⟨bsC w, bsO w, hgl⟩ P D) (hl : ps.length = vs.toList.length) (hr : ∀ (i : Nat) (p : PV), ps[i]? = some p → Rep (allM w) 0 p (vs.toList.getD i undef))
    (h : evE D f ps = some (.bool true)) (hbd : ∃ fn, P.funcs[f]? = some fn ∧ fn.body.isSome = true) : Calls P f vs w fun e w' => e = .returned (.bool true) ∧ Below w.heap.size w w' := by
  obtain ⟨n, hn⟩ := evE_ex h
  exact @law_calls ⟨bsC w, bsO w, hgl⟩ _ _ hD _ _ _ _ _ ⟨fun _ _ _ h => h, bsO_ok w⟩ hl hr hn hbd

end Go.Proofs.YtidkdiooempkpaaDoor
/- Loops of the pure reading, and words for evaluating. -/
namespace Go.Proofs.YtidkdiooempkpaaDoor
open Go Go.RowKit
set_option linter.unusedVariables false

/-- a loop over a list: until one stops it, or to the end -/
def runF {α σ : Type} (stop : Nat → α → σ → Bool) (next : Nat → α → σ → σ) : List α → Nat → σ → σ ⊕ (Nat × α × σ)
  | [], _, x => .inl x
  | a :: r, k, x => if stop k a x = true then .inr (k, a, x) else runF stop next r (k + 1) (next k a x)

theorem runF_inr {α σ : Type} {stop : Nat → α → σ → Bool} {next : Nat → α → σ → σ} {I : Nat → σ → Prop} {L : List α} (hI : ∀ k a x, L[k]? = some a → I k x → stop k a x = false → I (k + 1) (next k a x)) :
    ∀ (r : List α) (k : Nat) (x : σ), (∀ i, r[i]? = L[k + i]?) → I k x → ∀ k' a' x', runF stop next r k x = .inr (k', a', x') → L[k']? = some a' ∧ stop k' a' x' = true ∧ I k' x'
  | [], k, x, _, _, k', a', x', h => by simp [runF] at h
  | a :: r, k, x, hr, hx, k', a', x', h => by
    have h0 : L[k]? = some a := by simpa using (hr 0).symm
    simp only [runF] at h
    split at h
    · rename_i hs
      cases h
      exact ⟨h0, hs, hx⟩
    · rename_i hs
      exact runF_inr hI r (k + 1) _ (fun i => by have := hr (i + 1); rw [show k + (i + 1) = k + 1 + i by omega] at this; simpa using this) (hI k a x h0 hx (by simpa using hs)) k' a' x' h

theorem runF_inl {α σ : Type} {stop : Nat → α → σ → Bool} {next : Nat → α → σ → σ} {I : Nat → σ → Prop} {L : List α} (hI : ∀ k a x, L[k]? = some a → I k x → stop k a x = false → I (k + 1) (next k a x)) :
    ∀ (r : List α) (k : Nat) (x : σ), (∀ i, r[i]? = L[k + i]?) → k + r.length = L.length → I k x → ∀ x', runF stop next r k x = .inl x' → I L.length x'
  | [], k, x, _, hl, hx, x', h => by
    simp [runF] at h
    subst h
    have : k = L.length := by simpa using hl
    rw [← this]; exact hx
  | a :: r, k, x, hr, hl, hx, x', h => by
    have h0 : L[k]? = some a := by simpa using (hr 0).symm
    simp only [runF] at h
    split at h
    · cases h
    · rename_i hs
      exact runF_inl hI r (k + 1) _ (fun i => by have := hr (i + 1); rw [show k + (i + 1) = k + 1 + i by omega] at this; simpa using this) (by simp at hl; omega) (hI k a x h0 hx (by simpa using hs)) x' h

/-- A LOOP OVER A LIST -/
theorem loop_run {α σ : Type} {body : St → Option Out} {keep : List Nat} {n0 : Nat} (L : List α) (S : Nat → σ → St) (stop : Nat → α → σ → Bool) (next : Nat → α → σ → σ) (I : Nat → σ → Prop)
    (hnext : ∀ k a x, L[k]? = some a → k < L.length → I k x → stop k a x = false → I (k + 1) (next k a x) ∧ ∃ s', body (S k x) = some (.normal s') ∧ norm keep n0 s' = S (k + 1) (next k a x))
    (hstop : ∀ k a x, L[k]? = some a → k < L.length → I k x → stop k a x = true → ∀ s, body (S k x) ≠ some (.normal s))
    (hend : ∀ x, I L.length x → ∀ s, body (S L.length x) ≠ some (.normal s)) {fuel : Nat} {s0 : St} {x0 : σ} (hf : L.length < fuel) (h0 : norm keep n0 s0 = S 0 x0) (hI0 : I 0 x0) :
    evLoop body keep n0 fuel s0 = match runF stop next L 0 x0 with
      | .inl x => body (S L.length x)
      | .inr (k, _, x) => body (S k x) := by
  have key : ∀ (r : List α) (k : Nat) (x : σ) (fuel : Nat) (s : St), (∀ i, r[i]? = L[k + i]?) → k + r.length = L.length → r.length < fuel → norm keep n0 s = S k x → I k x →
      evLoop body keep n0 fuel s = match runF stop next r k x with
      | .inl x => body (S L.length x)
      | .inr (k, _, x) => body (S k x) := by
    intro r
    induction r with
    | nil =>
      intro k x fuel s hr hl hfu hs hx
      obtain ⟨f', rfl⟩ : ∃ f', fuel = f' + 1 := ⟨fuel - 1, by simp at hfu; omega⟩
      have hk : k = L.length := by simpa using hl
      subst hk
      simp only [evLoop, runF, hs]
      have := hend x hx
      split
      · rename_i st hb; exact absurd hb (this st)
      · rfl
    | cons a r ih =>
      intro k x fuel s hr hl hfu hs hx
      obtain ⟨f', rfl⟩ : ∃ f', fuel = f' + 1 := ⟨fuel - 1, by simp at hfu; omega⟩
      have hla : L[k]? = some a := by simpa using (hr 0).symm
      have hkl : k < L.length := (List.getElem?_eq_some_iff.1 hla).1
      simp only [evLoop, runF, hs]
      by_cases hst : stop k a x = true
      · rw [if_pos hst]
        have := hstop k a x hla hkl hx hst
        split
        · rename_i st hb; exact absurd hb (this st)
        · rfl
      · rw [if_neg hst]
        obtain ⟨g1, s', g2, g3⟩ := hnext k a x hla hkl hx (by simpa using hst)
        rw [g2]
        exact ih (k + 1) _ f' s' (fun i => by have := hr (i + 1); rw [show k + (i + 1) = k + 1 + i by omega] at this; simpa using this) (by simp at hl; omega) (by simp at hfu; omega) g3 g1
  exact key L 0 x0 fuel s0 (fun i => by simp) (by simp) hf h0 hI0

/-- A LOOP TO THE END OF A LIST -/
theorem loop_fold {α σ : Type} {body : St → Option Out} {keep : List Nat} {n0 : Nat} (L : List α) (S : Nat → σ → St) (next : σ → α → σ) (I : Nat → σ → Prop)
    (hnext : ∀ k a x, L[k]? = some a → k < L.length → I k x → I (k + 1) (next x a) ∧ ∃ s', body (S k x) = some (.normal s') ∧ norm keep n0 s' = S (k + 1) (next x a))
    (hend : ∀ x, I L.length x → ∀ s, body (S L.length x) ≠ some (.normal s)) {fuel : Nat} {s0 : St} {x0 : σ} (hf : L.length < fuel) (h0 : norm keep n0 s0 = S 0 x0) (hI0 : I 0 x0) :
    evLoop body keep n0 fuel s0 = body (S L.length (L.foldl next x0)) ∧ I L.length (L.foldl next x0) := by
  have key : ∀ (r : List α) (k : Nat) (x : σ) (fuel : Nat) (s : St), (∀ i, r[i]? = L[k + i]?) → k + r.length = L.length → r.length < fuel → norm keep n0 s = S k x → I k x →
      evLoop body keep n0 fuel s = body (S L.length (r.foldl next x)) ∧ I L.length (r.foldl next x) := by
    intro r
    induction r with
    | nil =>
      intro k x fuel s hr hl hfu hs hx
      obtain ⟨f', rfl⟩ : ∃ f', fuel = f' + 1 := ⟨fuel - 1, by simp at hfu; omega⟩
      have hk : k = L.length := by simpa using hl
      subst hk
      simp only [evLoop, hs, List.foldl]
      have := hend x hx
      refine ⟨?_, hx⟩
      split
      · rename_i st hb; exact absurd hb (this st)
      · rfl
    | cons a r ih =>
      intro k x fuel s hr hl hfu hs hx
      obtain ⟨f', rfl⟩ : ∃ f', fuel = f' + 1 := ⟨fuel - 1, by simp at hfu; omega⟩
      have hla : L[k]? = some a := by simpa using (hr 0).symm
      have hkl : k < L.length := (List.getElem?_eq_some_iff.1 hla).1
      simp only [evLoop, hs, List.foldl]
      obtain ⟨g1, s', g2, g3⟩ := hnext k a x hla hkl hx
      rw [g2]
      exact ih (k + 1) _ f' s' (fun i => by have := hr (i + 1); rw [show k + (i + 1) = k + 1 + i by omega] at this; simpa using this) (by simp at hl; omega) (by simp at hfu; omega) g3 g1
  exact key L 0 x0 fuel s0 (fun i => by simp) (by simp) hf h0 hI0

/-- A LOOP THAT RETURNS AT THE FIRST THAT FAILS -/
theorem loop_all {α : Type} {body : St → Option Out} {keep : List Nat} {n0 : Nat} (L : List α) (S : Nat → St) (q : α → Bool) (R : St → Prop)
    (hnext : ∀ k a, L[k]? = some a → k < L.length → q a = true → ∃ s', body (S k) = some (.normal s') ∧ norm keep n0 s' = S (k + 1))
    (hstop : ∀ k a, L[k]? = some a → k < L.length → q a = false → ∃ s', body (S k) = some (.ret s') ∧ R s')
    (hend : ∀ s, body (S L.length) ≠ some (.normal s)) {fuel : Nat} (hf : L.length < fuel) (s0 : St) (E : Option Out) (hE : evLoop body keep n0 fuel s0 = E) (h0 : norm keep n0 s0 = S 0) :
    (L.all q = true ∧ E = body (S L.length)) ∨ (L.all q = false ∧ ∃ s, E = some (.ret s) ∧ R s) := by
  subst hE
  have key : ∀ (r : List α) (k fuel : Nat) (s : St), (∀ i, r[i]? = L[k + i]?) → k + r.length = L.length → r.length < fuel → norm keep n0 s = S k →
      (r.all q = true ∧ evLoop body keep n0 fuel s = body (S L.length)) ∨ (r.all q = false ∧ ∃ o, evLoop body keep n0 fuel s = some (.ret o) ∧ R o) := by
    intro r
    induction r with
    | nil =>
      intro k fuel s hr hl hfu hs
      obtain ⟨f', rfl⟩ : ∃ f', fuel = f' + 1 := ⟨fuel - 1, by simp at hfu; omega⟩
      have hk : k = L.length := by simpa using hl
      subst hk
      refine .inl ⟨rfl, ?_⟩
      rw [evLoop, hs]
      cases hb : body (S L.length) with
      | none => rfl
      | some o => cases o with
        | normal st => exact absurd hb (hend st)
        | exit id st => rfl
        | ret st => rfl
    | cons a r ih =>
      intro k fuel s hr hl hfu hs
      obtain ⟨f', rfl⟩ : ∃ f', fuel = f' + 1 := ⟨fuel - 1, by simp at hfu; omega⟩
      have hla : L[k]? = some a := by simpa using (hr 0).symm
      have hkl : k < L.length := (List.getElem?_eq_some_iff.1 hla).1
      by_cases hq : q a = true
      · obtain ⟨s', g2, g3⟩ := hnext k a hla hkl hq
        simp only [evLoop, hs, List.all_cons, hq, Bool.true_and]
        rw [g2]
        exact ih (k + 1) f' s' (fun i => by have := hr (i + 1); rw [show k + (i + 1) = k + 1 + i by omega] at this; simpa using this) (by simp at hl; omega) (by simp at hfu; omega) g3
      · have hq : q a = false := by simpa using hq
        obtain ⟨s', g2, g3⟩ := hstop k a hla hkl hq
        refine .inr ⟨by simp [hq], s', ?_, g3⟩
        simp only [evLoop, hs]
        rw [g2]
  exact key L 0 fuel s0 (fun i => by simp) (by simp) hf h0

/-- the first number that is not zero -/
def firstF {α : Type} (f : Nat → α → Int) : List α → Nat → Int
  | [], _ => 0
  | a :: r, k => if f k a = 0 then firstF f r (k + 1) else f k a

theorem firstF_zero {α : Type} {f : Nat → α → Int} : ∀ (L : List α) (k : Nat), firstF f L k = 0 ↔ ∀ i a, L[i]? = some a → f (k + i) a = 0
  | [], k => by simp [firstF]
  | b :: r, k => by
    simp only [firstF]
    constructor
    · intro h
      split at h
      · rename_i h0
        intro i a hi
        cases i with
        | zero => simp at hi; subst hi; exact h0
        | succ i => have := (firstF_zero r (k + 1)).1 h i a (by simpa using hi); rw [show k + 1 + i = k + (i + 1) by omega] at this; exact this
      · rename_i h0; exact absurd h h0
    · intro h
      have h0 := h 0 b rfl
      rw [Nat.add_zero] at h0
      rw [if_pos h0]
      exact (firstF_zero r (k + 1)).2 fun i a hi => by have := h (i + 1) a (by simpa using hi); rw [show k + (i + 1) = k + 1 + i by omega] at this; exact this

/-- A LOOP THAT RETURNS THE FIRST ERROR -/
theorem loop_first {α : Type} {body : St → Option Out} {keep : List Nat} {n0 : Nat} (L : List α) (S : Nat → St) (f : Nat → α → Int) (R : Int → St → Prop)
    (hnext : ∀ k a, L[k]? = some a → k < L.length → f k a = 0 → ∃ s', body (S k) = some (.normal s') ∧ norm keep n0 s' = S (k + 1))
    (hstop : ∀ k a, L[k]? = some a → k < L.length → f k a ≠ 0 → ∃ s', body (S k) = some (.ret s') ∧ R (f k a) s')
    (hend : ∀ s, body (S L.length) ≠ some (.normal s)) {fuel : Nat} (hf : L.length < fuel) (s0 : St) (E : Option Out) (hE : evLoop body keep n0 fuel s0 = E) (h0 : norm keep n0 s0 = S 0) :
    (firstF f L 0 = 0 ∧ E = body (S L.length)) ∨ (firstF f L 0 ≠ 0 ∧ ∃ s, E = some (.ret s) ∧ R (firstF f L 0) s) := by
  subst hE
  have key : ∀ (r : List α) (k fuel : Nat) (s : St), (∀ i, r[i]? = L[k + i]?) → k + r.length = L.length → r.length < fuel → norm keep n0 s = S k →
      (firstF f r k = 0 ∧ evLoop body keep n0 fuel s = body (S L.length)) ∨ (firstF f r k ≠ 0 ∧ ∃ o, evLoop body keep n0 fuel s = some (.ret o) ∧ R (firstF f r k) o) := by
    intro r
    induction r with
    | nil =>
      intro k fuel s hr hl hfu hs
      obtain ⟨f', rfl⟩ : ∃ f', fuel = f' + 1 := ⟨fuel - 1, by simp at hfu; omega⟩
      have hk : k = L.length := by simpa using hl
      subst hk
      refine .inl ⟨rfl, ?_⟩
      rw [evLoop, hs]
      cases hb : body (S L.length) with
      | none => rfl
      | some o => cases o with
        | normal st => exact absurd hb (hend st)
        | exit id st => rfl
        | ret st => rfl
    | cons a r ih =>
      intro k fuel s hr hl hfu hs
      obtain ⟨f', rfl⟩ : ∃ f', fuel = f' + 1 := ⟨fuel - 1, by simp at hfu; omega⟩
      have hla : L[k]? = some a := by simpa using (hr 0).symm
      have hkl : k < L.length := (List.getElem?_eq_some_iff.1 hla).1
      by_cases hq : f k a = 0
      · obtain ⟨s', g2, g3⟩ := hnext k a hla hkl hq
        simp only [evLoop, hs, firstF, hq, if_true]
        rw [g2]
        exact ih (k + 1) f' s' (fun i => by have := hr (i + 1); rw [show k + (i + 1) = k + 1 + i by omega] at this; simpa using this) (by simp at hl; omega) (by simp at hfu; omega) g3
      · obtain ⟨s', g2, g3⟩ := hstop k a hla hkl hq
        simp only [evLoop, hs, firstF, hq, if_false]
        rw [g2]
        exact .inr ⟨hq, s', rfl, g3⟩
  exact key L 0 fuel s0 (fun i => by simp) (by simp) hf h0

/-- sums that fit -/
theorem wrap_i64 (x : Int) (h1 : -9223372036854775808 ≤ x) (h2 : x ≤ 9223372036854775807) : IntKind.i64.wrap x = x := by
  unfold IntKind.wrap
  simp only [IntKind.bits, IntKind.signed]
  simp
  omega
theorem wrap_u8 (x : Int) (h1 : 0 ≤ x) (h2 : x ≤ 255) : IntKind.u8.wrap x = x := by
  unfold IntKind.wrap
  simp only [IntKind.bits, IntKind.signed]
  simp
  omega

theorem map_get {α β : Type} {f : α → β} {L : List α} {k : Nat} {a : α} (h : L[k]? = some a) : (L.map f)[k]? = some (f a) := by simp [h]



/-- the same, the loop's outcome named -/
theorem loop_runE {α σ : Type} {body : St → Option Out} {keep : List Nat} {n0 : Nat} (L : List α) (S : Nat → σ → St) (stop : Nat → α → σ → Bool) (next : Nat → α → σ → σ) (I : Nat → σ → Prop)
    (hnext : ∀ k a x, L[k]? = some a → k < L.length → I k x → stop k a x = false → I (k + 1) (next k a x) ∧ ∃ s', body (S k x) = some (.normal s') ∧ norm keep n0 s' = S (k + 1) (next k a x))
    (hstop : ∀ k a x, L[k]? = some a → k < L.length → I k x → stop k a x = true → ∀ s, body (S k x) ≠ some (.normal s))
    (hend : ∀ x, I L.length x → ∀ s, body (S L.length x) ≠ some (.normal s)) {fuel : Nat} (hf : L.length < fuel) (x0 : σ) (hI0 : I 0 x0) (s0 : St) (E : Option Out) (hE : evLoop body keep n0 fuel s0 = E) (h0 : norm keep n0 s0 = S 0 x0) :
    (∃ x, runF stop next L 0 x0 = .inl x ∧ I L.length x ∧ E = body (S L.length x)) ∨ (∃ k a x, runF stop next L 0 x0 = .inr (k, a, x) ∧ L[k]? = some a ∧ k < L.length ∧ stop k a x = true ∧ I k x ∧ E = body (S k x)) := by
  have h := loop_run L S stop next I hnext hstop hend hf h0 hI0
  rw [hE] at h
  have hI : ∀ k a x, L[k]? = some a → I k x → stop k a x = false → I (k + 1) (next k a x) := fun k a x h1 h2 h3 => (hnext k a x h1 (List.getElem?_eq_some_iff.1 h1).1 h2 h3).1
  cases hr : runF stop next L 0 x0 with
  | inl x =>
    rw [hr] at h
    exact .inl ⟨x, rfl, runF_inl hI L 0 x0 (fun i => by simp) (by simp) hI0 x hr, h⟩
  | inr y =>
    obtain ⟨k, a, x⟩ := y
    rw [hr] at h
    obtain ⟨g1, g2, g3⟩ := runF_inr hI L 0 x0 (fun i => by simp) hI0 k a x hr
    exact .inr ⟨k, a, x, rfl, g1, (List.getElem?_eq_some_iff.1 g1).1, g2, g3, h⟩

/-- the same of a loop to the end -/
theorem loop_foldE {α σ : Type} {body : St → Option Out} {keep : List Nat} {n0 : Nat} (L : List α) (S : Nat → σ → St) (next : σ → α → σ) (I : Nat → σ → Prop)
    (hnext : ∀ k a x, L[k]? = some a → k < L.length → I k x → I (k + 1) (next x a) ∧ ∃ s', body (S k x) = some (.normal s') ∧ norm keep n0 s' = S (k + 1) (next x a))
    (hend : ∀ x, I L.length x → ∀ s, body (S L.length x) ≠ some (.normal s)) {fuel : Nat} (hf : L.length < fuel) (x0 : σ) (hI0 : I 0 x0) (s0 : St) (E : Option Out) (hE : evLoop body keep n0 fuel s0 = E) (h0 : norm keep n0 s0 = S 0 x0) :
    E = body (S L.length (L.foldl next x0)) ∧ I L.length (L.foldl next x0) := by
  rw [← hE]
  exact loop_fold L S next I hnext hend hf h0 hI0
/-- a loop over a list that goes on under an invariant, or returns -/
theorem loop_inv {α σ : Type} {body : St → Option Out} {keep : List Nat} {n0 : Nat} (L : List α) (S : Nat → σ → St) (I : Nat → σ → Prop) (R : St → Prop)
    (hnext : ∀ k a x, L[k]? = some a → k < L.length → I k x → (∃ x' s', body (S k x) = some (.normal s') ∧ norm keep n0 s' = S (k + 1) x' ∧ I (k + 1) x') ∨ ∃ s', body (S k x) = some (.ret s') ∧ R s')
    (hend : ∀ x, I L.length x → ∀ s, body (S L.length x) ≠ some (.normal s)) {fuel : Nat} (hf : L.length < fuel) (x0 : σ) (hI0 : I 0 x0) (s0 : St) (E : Option Out) (hE : evLoop body keep n0 fuel s0 = E) (h0 : norm keep n0 s0 = S 0 x0) :
    (∃ x, I L.length x ∧ E = body (S L.length x)) ∨ (∃ s, E = some (.ret s) ∧ R s) := by
  subst hE
  have key : ∀ (r : List α) (k fuel : Nat) (s : St) (x : σ), (∀ i, r[i]? = L[k + i]?) → k + r.length = L.length → r.length < fuel → norm keep n0 s = S k x → I k x →
      (∃ x, I L.length x ∧ evLoop body keep n0 fuel s = body (S L.length x)) ∨ (∃ o, evLoop body keep n0 fuel s = some (.ret o) ∧ R o) := by
    intro r
    induction r with
    | nil =>
      intro k fuel s x hr hl hfu hs hx
      obtain ⟨f', rfl⟩ : ∃ f', fuel = f' + 1 := ⟨fuel - 1, by simp at hfu; omega⟩
      have hk : k = L.length := by simpa using hl
      subst hk
      refine .inl ⟨x, hx, ?_⟩
      rw [evLoop, hs]
      cases hb : body (S L.length x) with
      | none => rfl
      | some o => cases o with
        | normal st => exact absurd hb (hend x hx st)
        | exit id st => rfl
        | ret st => rfl
    | cons a r ih =>
      intro k fuel s x hr hl hfu hs hx
      obtain ⟨f', rfl⟩ : ∃ f', fuel = f' + 1 := ⟨fuel - 1, by simp at hfu; omega⟩
      have hla : L[k]? = some a := by simpa using (hr 0).symm
      have hkl : k < L.length := (List.getElem?_eq_some_iff.1 hla).1
      rcases hnext k a x hla hkl hx with ⟨x', s', g2, g3, g4⟩ | ⟨s', g2, g3⟩
      · simp only [evLoop, hs]
        rw [g2]
        exact ih (k + 1) f' s' x' (fun i => by have := hr (i + 1); rw [show k + (i + 1) = k + 1 + i by omega] at this; simpa using this) (by simp at hl; omega) (by simp at hfu; omega) g3 g4
      · refine .inr ⟨s', ?_, g3⟩
        simp only [evLoop, hs]
        rw [g2]
  exact key L 0 fuel s0 x0 (fun i => by simp) (by simp) hf h0 hI0


/-- ANY LOOP, BY A NUMBER THAT SINKS -/
theorem loop_while {σ : Type} {body : St → Option Out} {keep : List Nat} {n0 : Nat} (S : σ → St) (μ : σ → Nat) (I : σ → Prop) (R : Out → Prop)
    (h : ∀ x, I x → (∃ x' s', body (S x) = some (.normal s') ∧ norm keep n0 s' = S x' ∧ I x' ∧ μ x' < μ x) ∨ ∃ o, body (S x) = some o ∧ (∀ s, o ≠ .normal s) ∧ R o) {fuel : Nat} (x0 : σ) (hI0 : I x0) (hf : μ x0 < fuel) (s0 : St) (E : Option Out) (hE : evLoop body keep n0 fuel s0 = E) (h0 : norm keep n0 s0 = S x0) :
    ∃ o, E = some o ∧ R o := by
  subst hE
  induction fuel generalizing x0 s0 with
  | zero => omega
  | succ f ih =>
    simp only [evLoop, h0]
    rcases h x0 hI0 with ⟨x', s', h1, h2, h3, h4⟩ | ⟨o, h1, h2, h3⟩
    · rw [h1]
      exact ih x' h3 (by omega) s' h2
    · rw [h1]
      cases o with
      | normal s => exact absurd rfl (h2 s)
      | exit id s => exact ⟨_, rfl, h3⟩
      | ret s => exact ⟨_, rfl, h3⟩

/-- A LOOP THAT RETURNS AT THE FIRST OF A KIND -/
theorem loop_find {α : Type} {body : St → Option Out} {keep : List Nat} {n0 : Nat} (L : List α) (S : Nat → St) (q : α → Bool) (R : Nat → St → Prop)
    (hnext : ∀ k a, L[k]? = some a → k < L.length → q a = false → ∃ s', body (S k) = some (.normal s') ∧ norm keep n0 s' = S (k + 1))
    (hstop : ∀ k a, L[k]? = some a → k < L.length → q a = true → ∃ s', body (S k) = some (.ret s') ∧ R k s')
    (hend : ∀ s, body (S L.length) ≠ some (.normal s)) {fuel : Nat} (hf : L.length < fuel) (s0 : St) (E : Option Out) (hE : evLoop body keep n0 fuel s0 = E) (h0 : norm keep n0 s0 = S 0) :
    (L.findIdx? q = none ∧ E = body (S L.length)) ∨ (∃ k, L.findIdx? q = some k ∧ ∃ s, E = some (.ret s) ∧ R k s) := by
  subst hE
  have key : ∀ (r : List α) (k fuel : Nat) (s : St), (∀ i, r[i]? = L[k + i]?) → k + r.length = L.length → r.length < fuel → norm keep n0 s = S k →
      (r.findIdx? q = none ∧ evLoop body keep n0 fuel s = body (S L.length)) ∨ (∃ j, r.findIdx? q = some j ∧ ∃ o, evLoop body keep n0 fuel s = some (.ret o) ∧ R (k + j) o) := by
    intro r
    induction r with
    | nil =>
      intro k fuel s hr hl hfu hs
      obtain ⟨f', rfl⟩ : ∃ f', fuel = f' + 1 := ⟨fuel - 1, by simp at hfu; omega⟩
      have hk : k = L.length := by simpa using hl
      subst hk
      refine .inl ⟨rfl, ?_⟩
      rw [evLoop, hs]
      cases hb : body (S L.length) with
      | none => rfl
      | some o => cases o with
        | normal st => exact absurd hb (hend st)
        | exit id st => rfl
        | ret st => rfl
    | cons a r ih =>
      intro k fuel s hr hl hfu hs
      obtain ⟨f', rfl⟩ : ∃ f', fuel = f' + 1 := ⟨fuel - 1, by simp at hfu; omega⟩
      have hla : L[k]? = some a := by simpa using (hr 0).symm
      have hkl : k < L.length := (List.getElem?_eq_some_iff.1 hla).1
      cases hq : q a
      · obtain ⟨s', g2, g3⟩ := hnext k a hla hkl hq
        simp only [evLoop, hs]
        rw [g2]
        rcases ih (k + 1) f' s' (fun i => by have := hr (i + 1); rw [show k + (i + 1) = k + 1 + i by omega] at this; simpa using this) (by simp at hl; omega) (by simp at hfu; omega) g3 with ⟨h1, h2⟩ | ⟨j, h1, o, h2, h3⟩
        · exact .inl ⟨by simp [List.findIdx?_cons, hq, h1], h2⟩
        · exact .inr ⟨j + 1, by simp [List.findIdx?_cons, hq, h1], o, h2, by rw [show k + (j + 1) = k + 1 + j by omega]; exact h3⟩
      · obtain ⟨s', g2, g3⟩ := hstop k a hla hkl hq
        refine .inr ⟨0, by simp [List.findIdx?_cons, hq], s', ?_, g3⟩
        simp only [evLoop, hs]
        rw [g2]
  rcases key L 0 fuel s0 (fun i => by simp) (by simp) hf h0 with h | ⟨j, h1, o, h2, h3⟩
  · exact .inl h
  · exact .inr ⟨j, h1, o, h2, by simpa using h3⟩

/-- A LOOP THAT RETURNS THE FIRST ERROR, under an invariant -/
theorem loop_firstI {α : Type} {body : St → Option Out} {keep : List Nat} {n0 : Nat} (L : List α) (S : Nat → St) (f : Nat → α → Int) (I : Nat → Prop) (R : Int → St → Prop)
    (hnext : ∀ k a, L[k]? = some a → k < L.length → I k → f k a = 0 → I (k + 1) ∧ ∃ s', body (S k) = some (.normal s') ∧ norm keep n0 s' = S (k + 1))
    (hstop : ∀ k a, L[k]? = some a → k < L.length → I k → f k a ≠ 0 → ∃ s', body (S k) = some (.ret s') ∧ R (f k a) s')
    (hend : ∀ s, body (S L.length) ≠ some (.normal s)) (hI : I 0) {fuel : Nat} (hf : L.length < fuel) (s0 : St) (E : Option Out) (hE : evLoop body keep n0 fuel s0 = E) (h0 : norm keep n0 s0 = S 0) :
    (firstF f L 0 = 0 ∧ I L.length ∧ E = body (S L.length)) ∨ (firstF f L 0 ≠ 0 ∧ ∃ s, E = some (.ret s) ∧ R (firstF f L 0) s) := by
  subst hE
  have key : ∀ (r : List α) (k fuel : Nat) (s : St), (∀ i, r[i]? = L[k + i]?) → k + r.length = L.length → r.length < fuel → norm keep n0 s = S k → I k →
      (firstF f r k = 0 ∧ I L.length ∧ evLoop body keep n0 fuel s = body (S L.length)) ∨ (firstF f r k ≠ 0 ∧ ∃ o, evLoop body keep n0 fuel s = some (.ret o) ∧ R (firstF f r k) o) := by
    intro r
    induction r with
    | nil =>
      intro k fuel s hr hl hfu hs hi
      obtain ⟨f', rfl⟩ : ∃ f', fuel = f' + 1 := ⟨fuel - 1, by simp at hfu; omega⟩
      have hk : k = L.length := by simpa using hl
      subst hk
      refine .inl ⟨rfl, hi, ?_⟩
      rw [evLoop, hs]
      cases hb : body (S L.length) with
      | none => rfl
      | some o => cases o with
        | normal st => exact absurd hb (hend st)
        | exit id st => rfl
        | ret st => rfl
    | cons a r ih =>
      intro k fuel s hr hl hfu hs hi
      obtain ⟨f', rfl⟩ : ∃ f', fuel = f' + 1 := ⟨fuel - 1, by simp at hfu; omega⟩
      have hla : L[k]? = some a := by simpa using (hr 0).symm
      have hkl : k < L.length := (List.getElem?_eq_some_iff.1 hla).1
      by_cases hq : f k a = 0
      · obtain ⟨hi', s', g2, g3⟩ := hnext k a hla hkl hi hq
        simp only [evLoop, hs, firstF, hq, if_true]
        rw [g2]
        exact ih (k + 1) f' s' (fun i => by have := hr (i + 1); rw [show k + (i + 1) = k + 1 + i by omega] at this; simpa using this) (by simp at hl; omega) (by simp at hfu; omega) g3 hi'
      · obtain ⟨s', g2, g3⟩ := hstop k a hla hkl hi hq
        simp only [evLoop, hs, firstF, hq, if_false]
        rw [g2]
        exact .inr ⟨hq, s', rfl, g3⟩
  exact key L 0 fuel s0 (fun i => by simp) (by simp) hf h0 hI

/-- a call, by what the function answers -/
theorem callP_unfr {C : Nat → List PV → Option PV} {bl : Blks} {f : Nat} {args : List PV} {r q : PV} (h : C f args = some r) (hl : PV.lt.ltL 0 args = true) (hq : unfr r = q) (hlt : q.lt 0 = true) : callP C bl false f args = some (q, []) := by
  subst hq
  unfold callP
  rw [if_pos hl, h]
  simp [hlt]

end Go.Proofs.YtidkdiooempkpaaDoor
/- What comes in, opened type by type. -/
namespace Go.Proofs.YtidkdiooempkpaaDoor
open Go Go.RowKit
set_option linter.unusedVariables false

section
variable {P : Program} {d : Nat} {t : TypeId} {ps : List PV} {p : PV}
theorem ht_bool (hu : P.underlying t = some .bool) (h : HT P (d + 1) t ps) : ∃ b, ps = [.bool b] := by simp only [HT, hu] at h; exact h
theorem ht_int {k : IntKind} (hu : P.underlying t = some (.int k)) (h : HT P (d + 1) t ps) : ∃ i, ps = [.int k i] ∧ (Lit.int k i).wf = true := by simp only [HT, hu] at h; exact h
theorem ht_string (hu : P.underlying t = some .string) (h : HT P (d + 1) t ps) : ∃ s, ps = [.str s] ∧ s.length ≤ maxLen := by simp only [HT, hu] at h; exact h
theorem ht_slice {e : TypeId} (hu : P.underlying t = some (.slice e)) (h : HT P (d + 1) t ps) : ∃ rows, ps = [.sl false (P.cellsOf e) rows] ∧ rows.length ≤ maxLen ∧ ∀ r ∈ rows, HT P d e r := by simp only [HT, hu] at h; exact h
theorem ht_struct {fs : Array Field} (hu : P.underlying t = some (.struct fs)) (h : HT P (d + 1) t ps) : HTF (HT P d) fs.toList ps := by simp only [HT, hu] at h; exact h
theorem ht_array {k : Nat} {e : TypeId} (hu : P.underlying t = some (.array k e)) (h : HT P (d + 1) t ps) : HTA (HT P d e) k ps := by simp only [HT, hu] at h; exact h
theorem argT_struct {fs : Array Field} (hu : P.underlying t = some (.struct fs)) (h : ArgT P d t p) : ∃ ps, p = .agg ps ∧ HT P d t ps := by simp only [ArgT, hu] at h; exact h
theorem argT_array {k : Nat} {e : TypeId} (hu : P.underlying t = some (.array k e)) (h : ArgT P d t p) : ∃ ps, p = .agg ps ∧ HT P d t ps := by simp only [ArgT, hu] at h; exact h
theorem argT_slice {e : TypeId} (hu : P.underlying t = some (.slice e)) (h : ArgT P d t p) : HT P d t [p] := by simp only [ArgT, hu] at h; exact h
theorem argT_int {k : IntKind} (hu : P.underlying t = some (.int k)) (h : ArgT P (d + 1) t p) : ∃ i, p = .int k i ∧ (Lit.int k i).wf = true := by
  simp only [ArgT, hu] at h
  obtain ⟨i, h1, h2⟩ := ht_int hu h
  exact ⟨i, by simpa using h1, h2⟩
theorem argT_bool (hu : P.underlying t = some .bool) (h : ArgT P (d + 1) t p) : ∃ b, p = .bool b := by
  simp only [ArgT, hu] at h
  obtain ⟨i, h1⟩ := ht_bool hu h
  exact ⟨i, by simpa using h1⟩
theorem argT_string (hu : P.underlying t = some .string) (h : ArgT P (d + 1) t p) : ∃ s, p = .str s ∧ s.length ≤ maxLen := by
  simp only [ArgT, hu] at h
  obtain ⟨i, h1, h2⟩ := ht_string hu h
  exact ⟨i, by simpa using h1, h2⟩

/-- a slice of rows of one shape -/
theorem argT_rows {α : Type} {f : α → List PV} {e : TypeId} {c : Nat} {Q : α → Prop} (hu : P.underlying t = some (.slice e)) (hc : P.cellsOf e = c) (hf : ∀ r, HT P d e r → ∃ a, r = f a ∧ Q a) (h : HT P (d + 1) t ps) : ∃ l : List α, ps = [.sl false c (l.map f)] ∧ l.length ≤ maxLen ∧ ∀ a ∈ l, Q a := by
  obtain ⟨rows, rfl, hl, hr⟩ := ht_slice hu h
  rw [hc]
  clear h
  have : ∃ l : List α, rows = l.map f ∧ ∀ a ∈ l, Q a := by
    clear hl
    induction rows with
    | nil => exact ⟨[], rfl, by simp⟩
    | cons r rows ih =>
      obtain ⟨a, ha, hq⟩ := hf r (hr r (by simp))
      obtain ⟨l, hl, hql⟩ := ih fun r' hr' => hr r' (by simp [hr'])
      refine ⟨a :: l, by simp [ha, hl], ?_⟩
      intro b hb
      rcases List.mem_cons.1 hb with rfl | hb
      · exact hq
      · exact hql b hb
  obtain ⟨l, rfl, hq⟩ := this
  exact ⟨l, rfl, by simpa using hl, hq⟩

theorem htf_nil {h : TypeId → List PV → Prop} {ps : List PV} (x : HTF h [] ps) : ps = [] := x
theorem htf_cons {h : TypeId → List PV → Prop} {f : Field} {r : List Field} {ps : List PV} (x : HTF h (f :: r) ps) : ∃ p q, ps = p ++ q ∧ h f.type p ∧ HTF h r q := x
theorem hta_nil {h : List PV → Prop} {ps : List PV} (x : HTA h 0 ps) : ps = [] := x
theorem hta_cons {h : List PV → Prop} {k : Nat} {ps : List PV} (x : HTA h (k + 1) ps) : ∃ p q, ps = p ++ q ∧ h p ∧ HTA h k q := x

theorem argL1 {t1 : TypeId} (h : ArgL P d [t1] ps) : ∃ a, ps = [a] ∧ ArgT P d t1 a := by
  cases ps with
  | nil => exact h.elim
  | cons a r => cases r with
    | nil => exact ⟨a, rfl, h.1⟩
    | cons b r => exact h.2.elim
theorem argL_cons {t1 : TypeId} {ts : List TypeId} (h : ArgL P d (t1 :: ts) ps) : ∃ a qs, ps = a :: qs ∧ ArgT P d t1 a ∧ ArgL P d ts qs := by
  cases ps with
  | nil => exact h.elim
  | cons a r => exact ⟨a, r, rfl, h.1, h.2⟩
theorem argL2 {t1 t2 : TypeId} (h : ArgL P d [t1, t2] ps) : ∃ a b, ps = [a, b] ∧ ArgT P d t1 a ∧ ArgT P d t2 b := by
  obtain ⟨a, q, rfl, h1, h2⟩ := argL_cons h
  obtain ⟨b, rfl, h3⟩ := argL1 h2
  exact ⟨a, b, rfl, h1, h3⟩
theorem argL3 {t1 t2 t3 : TypeId} (h : ArgL P d [t1, t2, t3] ps) : ∃ a b c, ps = [a, b, c] ∧ ArgT P d t1 a ∧ ArgT P d t2 b ∧ ArgT P d t3 c := by
  obtain ⟨a, q, rfl, h1, h2⟩ := argL_cons h
  obtain ⟨b, c, rfl, h3, h4⟩ := argL2 h2
  exact ⟨a, b, c, rfl, h1, h3, h4⟩
theorem argL4 {t1 t2 t3 t4 : TypeId} (h : ArgL P d [t1, t2, t3, t4] ps) : ∃ a b c e, ps = [a, b, c, e] ∧ ArgT P d t1 a ∧ ArgT P d t2 b ∧ ArgT P d t3 c ∧ ArgT P d t4 e := by
  obtain ⟨a, q, rfl, h1, h2⟩ := argL_cons h
  obtain ⟨b, c, e, rfl, h3, h4, h5⟩ := argL3 h2
  exact ⟨a, b, c, e, rfl, h1, h3, h4, h5⟩
theorem wf_i64 {i : Int} (h : (Lit.int .i64 i).wf = true) : -9223372036854775808 ≤ i ∧ i ≤ 9223372036854775807 := by
  simp [Lit.wf, IntKind.min, IntKind.max, IntKind.signed, IntKind.bits] at h
  omega
end
end Go.Proofs.YtidkdiooempkpaaDoor
