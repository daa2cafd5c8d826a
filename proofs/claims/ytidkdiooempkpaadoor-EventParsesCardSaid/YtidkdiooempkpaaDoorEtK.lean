/- event: valid events; a text's words are told apart (mathematics); Text of any event. -/
-- LATT
import Derived.Test.YtidkdiooempkpaaDoorEtJ
import Derived.Test.YtidkdiooempkpaaDoorNtA
namespace Go.Proofs.YtidkdiooempkpaaDoor
open Go Go.RowKit Go.Lib
attribute [local simp] evCode evOps evOne evOp evPur evEff evPur.chunks fillP AOp.isEff AO.ev putP PV.cells PV.leaf getB getM mapE iterE keyC mapRows mfind eq1 eqL scal binP unP minP maxP foldP PV.lt PV.lt.ltL endP expoAll expoG expo expo.expoL frIds frIds.frIdsL nodupN kill cls clsFuel resO RV.get loadP evC_p evC_s endS endT rowsOf callP thinL unfr unfr.unfrL PV.noMem PV.noMem.noMemL optI mapO norm trimT trimB forget hasN blksLt List.set softChk softGo softRd effTg tgOf chgN sameB PV.same PV.same.sameL PV.same.sameLL rdP
set_option linter.unusedVariables false
set_option linter.unusedSimpArgs false
set_option maxHeartbeats 4000000
set_option maxRecDepth 100000

theorem wE_0 {n lo hi : Int} (h : wE n lo hi = 0) : lo ≤ n ∧ n ≤ hi := by
  unfold wE at h
  split at h
  · cases h
  · split at h
    · cases h
    · omega
structure Val (e : Ev) : Prop where
  at0 : 0 ≤ e.at_
  at1 : e.at_ ≤ 1000000000000
  k1 : ¬ e.k < 1
  k2 : ¬ 12 < e.k
  n0 : kLo e.k ≤ e.n
  n1 : e.n ≤ kHi e.k
  m1 : uM (kC e.k) e.k e.n = true → (if e.k = 11 then 1 else 0) ≤ e.m ∧ e.m ≤ 1000000000000000
  m0 : uM (kC e.k) e.k e.n = false → e.m = 0
  nm1 : kA e.k = true → nameOk e.name = true
  nm0 : kA e.k = false → e.name = []
  nn0 : kB e.k = false → e.n = 0
  st1 : kD e.k = true → framesE e.st = 0
  st0 : kD e.k = false → e.st = []
theorem val_of {e : Ev} (h : errV e = 0) : Val e := by
  unfold errV at h
  split at h
  · cases h
  · rename_i ha
    split at h
    · cases h
    · rename_i hk
      unfold chkC at h
      split at h
      · cases h
      · rename_i h1
        split at h
        · cases h
        · rename_i h2
          split at h
          · rename_i h3; exact absurd h h3.2
          · rename_i h3
            unfold numV at h
            split at h
            · rename_i h4
              obtain ⟨n0, n1⟩ := wE_0 h4
              refine ⟨by omega, by omega, by omega, by omega, n0, n1, ?_, ?_, ?_, ?_, ?_, ?_, ?_⟩
              · intro hu
                unfold mE at h
                rw [if_pos hu] at h
                split at h
                · rename_i h11; rw [if_pos h11]; have := wE_0 h; omega
                · rename_i h11; rw [if_neg h11]; exact wE_0 h
              · intro hu
                unfold mE at h
                rw [hu, if_neg (by decide)] at h
                split at h
                · assumption
                · cases h
              · intro hA
                apply Decidable.byContradiction
                intro hn
                exact h2 ⟨hA, by simpa using hn⟩
              · intro hA
                apply Decidable.byContradiction
                intro hn
                exact h1 (.inl ⟨hA, hn⟩)
              · intro hA
                apply Decidable.byContradiction
                intro hn
                exact h1 (.inr (.inl ⟨hA, hn⟩))
              · intro hA
                apply Decidable.byContradiction
                intro hn
                exact h3 ⟨hA, hn⟩
              · intro hA
                apply Decidable.byContradiction
                intro hn
                exact h1 (.inr (.inr (.inr ⟨hA, hn⟩)))
            · rename_i h4; exact absurd h h4
theorem Val.nb {e : Ev} (v : Val e) : -1000000000000000 ≤ e.n ∧ e.n ≤ 1000000000000000 := by
  have := v.n0
  have := v.n1
  unfold kLo kHi at *
  split at * <;> (try split at *) <;> (try split at *) <;> (try split at *) <;> (try split at *) <;> omega
theorem Val.mb {e : Ev} (v : Val e) : 0 ≤ e.m ∧ e.m ≤ 1000000000000000 := by
  cases hu : uM (kC e.k) e.k e.n with
  | true =>
    have := v.m1 hu
    split at this <;> omega
  | false => rw [v.m0 hu]; omega
theorem name_len {s : List UInt8} (h : nameOk s = true) : 1 ≤ s.length ∧ s.length ≤ 40 := by
  unfold nameOk at h
  simp only [Bool.and_eq_true, decide_eq_true_eq] at h
  exact ⟨h.1.1, h.1.2⟩
theorem name_no {s : List UInt8} (h : nameOk s = true) : ∀ c ∈ s, c ≠ 32 ∧ c ≠ 59 := by
  unfold nameOk at h
  simp only [Bool.and_eq_true, List.all_eq_true] at h
  intro c hc
  have := h.2 c hc
  constructor <;> (rintro rfl; revert this; decide)
theorem frames_0 {l : List (List UInt8)} (h : framesE l = 0) : l.length ≤ 32 ∧ ∀ s ∈ l, nameOk s = true := by
  unfold framesE at h
  split at h
  · cases h
  · rename_i h1
    split at h
    · rename_i h2
      exact ⟨by omega, by simpa using h2⟩
    · cases h
theorem Val.frames {e : Ev} (v : Val e) : e.st.length ≤ 32 ∧ ∀ s ∈ e.st, nameOk s = true := by
  cases hd : kD e.k with
  | true => exact frames_0 (v.st1 hd)
  | false => rw [v.st0 hd]; simp
theorem Val.name {e : Ev} (v : Val e) : e.name.length ≤ 40 ∧ ∀ c ∈ e.name, c ≠ 32 ∧ c ≠ 59 := by
  cases hd : kA e.k with
  | true => exact ⟨(name_len (v.nm1 hd)).2, name_no (v.nm1 hd)⟩
  | false => rw [v.nm0 hd]; simp
theorem join_le (c : List UInt8) (hc : c.length ≤ 1) (B : Nat) : ∀ l : List (List UInt8), (∀ s ∈ l, s.length ≤ B) → (joinS c l).length ≤ l.length * (B + 1)
  | [], _ => by simp [joinS]
  | s :: r, h => by
    have ih := join_le c hc B r (fun x hx => h x (List.mem_cons_of_mem _ hx))
    have h1 := h s (List.mem_cons_self ..)
    unfold joinS
    cases r with
    | nil => simp only [List.length_cons, List.length_nil]; omega
    | cons t r =>
      simp only [List.length_append, List.length_cons, Nat.succ_mul] at ih ⊢
      omega
theorem join_mem (c : UInt8) : ∀ (l : List (List UInt8)), ∀ x ∈ joinS [c] l, x = c ∨ ∃ s ∈ l, x ∈ s
  | [], x, hx => by cases hx
  | s :: r, x, hx => by
    unfold joinS at hx
    cases r with
    | nil => exact .inr ⟨s, by simp, hx⟩
    | cons t r =>
      simp only [List.mem_append, List.mem_singleton] at hx
      rcases hx with hx | hx | hx
      · exact .inr ⟨s, by simp, hx⟩
      · exact .inl hx
      · rcases join_mem c (t :: r) x hx with h | ⟨u, hu, h⟩
        · exact .inl h
        · exact .inr ⟨u, List.mem_cons_of_mem _ hu, h⟩
/-- a text cut at a byte -/
def cutB (c : UInt8) : List UInt8 → List (List UInt8)
  | [] => [[]]
  | x :: r => if x = c then [] :: cutB c r else match cutB c r with
    | [] => [[x]]
    | w :: ws => (x :: w) :: ws
theorem cutB_ne (c : UInt8) : ∀ l, cutB c l ≠ []
  | [] => by simp [cutB]
  | x :: r => by
    unfold cutB
    split
    · simp
    · split <;> simp
theorem cutB_one (c : UInt8) : ∀ w : List UInt8, (∀ x ∈ w, x ≠ c) → cutB c w = [w]
  | [], _ => rfl
  | x :: r, h => by
    have ih := cutB_one c r (fun y hy => h y (List.mem_cons_of_mem _ hy))
    unfold cutB
    rw [if_neg (h x (List.mem_cons_self ..)), ih]
theorem cutB_app (c : UInt8) (r : List UInt8) : ∀ w : List UInt8, (∀ x ∈ w, x ≠ c) → cutB c (w ++ c :: r) = w :: cutB c r
  | [], _ => by simp [cutB]
  | x :: w, h => by
    have ih := cutB_app c r w (fun y hy => h y (List.mem_cons_of_mem _ hy))
    rw [List.cons_append]
    conv => lhs; unfold cutB
    rw [if_neg (h x (List.mem_cons_self ..)), ih]
theorem cut_join (c : UInt8) : ∀ l : List (List UInt8), l ≠ [] → (∀ s ∈ l, ∀ x ∈ s, x ≠ c) → cutB c (joinS [c] l) = l
  | [], h, _ => absurd rfl h
  | s :: r, _, h => by
    have h1 := h s (List.mem_cons_self ..)
    unfold joinS
    cases r with
    | nil => exact cutB_one c s h1
    | cons t r =>
      have ih := cut_join c (t :: r) (by simp) (fun x hx => h x (List.mem_cons_of_mem _ hx))
      simp only [List.singleton_append]
      rw [cutB_app c _ s h1, ih]
theorem join_inj {c : UInt8} {a b : List (List UInt8)} (ha : a ≠ []) (hb : b ≠ []) (h1 : ∀ s ∈ a, ∀ x ∈ s, x ≠ c) (h2 : ∀ s ∈ b, ∀ x ∈ s, x ≠ c) (h : joinS [c] a = joinS [c] b) : a = b := by
  have e1 := cut_join c a ha h1
  rw [h, cut_join c b hb h2] at e1
  exact e1.symm
theorem itoa_no (n : Int) : ∀ c ∈ itoa n, c ≠ 32 ∧ c ≠ 59 := by
  intro c hc
  unfold itoa at hc
  split at hc
  · rcases List.mem_cons.1 hc with rfl | hc
    · decide
    · have := digs_dig _ c hc
      constructor <;> (rintro rfl; revert this; decide)
  · have := digs_dig _ c hc
    constructor <;> (rintro rfl; revert this; decide)
theorem kW_no {k : Int} (h1 : ¬ k < 1) (h2 : ¬ 12 < k) : (∀ c ∈ kW k, c ≠ 32 ∧ c ≠ 59) ∧ (kW k).length ≤ 6 := by
  rcases kinds h1 h2 with rfl | rfl | rfl | rfl | rfl | rfl | rfl | rfl | rfl | rfl | rfl | rfl <;> decide
/-- kinds by their words -/
def kOf (w : List UInt8) : Int :=
  if w = kW 1 then 1 else if w = kW 2 then 2 else if w = kW 3 then 3 else if w = kW 4 then 4 else if w = kW 5 then 5 else if w = kW 6 then 6 else if w = kW 7 then 7 else if w = kW 8 then 8 else if w = kW 9 then 9 else if w = kW 10 then 10 else if w = kW 11 then 11 else if w = kW 12 then 12 else 0
theorem kOf_kW {k : Int} (h1 : ¬ k < 1) (h2 : ¬ 12 < k) : kOf (kW k) = k := by
  rcases kinds h1 h2 with rfl | rfl | rfl | rfl | rfl | rfl | rfl | rfl | rfl | rfl | rfl | rfl <;> decide
theorem stT_no {l : List (List UInt8)} (h : ∀ s ∈ l, nameOk s = true) : ∀ c ∈ stT l, c ≠ 32 := by
  unfold stT
  split
  · intro c hc; simp only [List.mem_singleton] at hc; subst hc; decide
  · intro c hc
    rcases join_mem 59 l c hc with rfl | ⟨s, hs, hx⟩
    · decide
    · exact (name_no (h s hs) c hx).1
theorem stT_len {l : List (List UInt8)} (h : ∀ s ∈ l, nameOk s = true) (hl : l.length ≤ 32) : (joinS [59] l).length ≤ 1312 ∧ (stT l).length ≤ 1312 := by
  have := join_le [59] (by simp) 40 l (fun s hs => (name_len (h s hs)).2)
  have h2 : l.length * (40 + 1) ≤ 1312 := by omega
  refine ⟨by omega, ?_⟩
  unfold stT
  split
  · simp
  · omega
theorem stT_inj {a b : List (List UInt8)} (ha : ∀ s ∈ a, nameOk s = true) (hb : ∀ s ∈ b, nameOk s = true) (h : stT a = stT b) : a = b := by
  have no : ∀ {l : List (List UInt8)}, (∀ s ∈ l, nameOk s = true) → ∀ s ∈ l, ∀ x ∈ s, x ≠ 59 := fun h s hs x hx => (name_no (h s hs) x hx).2
  have nil : ∀ {l : List (List UInt8)}, (∀ s ∈ l, nameOk s = true) → l ≠ [] → joinS [59] l ≠ [59] := fun {l} hl hn he => by
    have e1 := cut_join 59 l hn (no hl)
    rw [he] at e1
    have : ([] : List UInt8) ∈ l := by rw [← e1]; decide
    exact absurd (hl [] this) (by decide)
  unfold stT at h
  split at h
  · rename_i h1
    split at h
    · rename_i h2; rw [h1, h2]
    · rename_i h2; exact absurd h.symm (nil hb h2)
  · rename_i h1
    split at h
    · rename_i h2; exact absurd h (nil ha h1)
    · rename_i h2; exact join_inj h1 h2 (no ha) (no hb) h
theorem Val.words {e : Ev} (v : Val e) : ∀ s ∈ wdE e, (∀ x ∈ s, x ≠ 32) ∧ s.length ≤ 1312 := by
  have hn := v.nb
  have hm := v.mb
  have l1 := itoa_len e.at_ (by have := v.at0; have := v.at1; omega)
  have l2 := itoa_len e.n hn
  have l3 := itoa_len e.m (by omega)
  obtain ⟨w1, w2⟩ := kW_no v.k1 v.k2
  obtain ⟨f1, f2⟩ := v.frames
  obtain ⟨g1, g2⟩ := stT_len f2 f1
  obtain ⟨q1, q2⟩ := v.name
  intro s hs
  unfold wdE at hs
  simp only [List.mem_append, List.mem_cons, List.not_mem_nil, or_false] at hs
  have ite : ∀ {b : Bool} {t : List UInt8}, s ∈ (if b = true then [t] else []) → s = t := fun {b t} h => by
    cases b <;> simp at h
    exact h
  rcases hs with ((((rfl | rfl) | h) | h) | h) | h
  · exact ⟨fun x hx => (itoa_no _ x hx).1, by omega⟩
  · exact ⟨fun x hx => (w1 x hx).1, by omega⟩
  · obtain rfl := ite h; exact ⟨fun x hx => (q2 x hx).1, by omega⟩
  · obtain rfl := ite h; exact ⟨fun x hx => (itoa_no _ x hx).1, by omega⟩
  · obtain rfl := ite h; exact ⟨fun x hx => (itoa_no _ x hx).1, by omega⟩
  · obtain rfl := ite h; exact ⟨stT_no f2, g2⟩
theorem wd_len (e : Ev) : (wdE e).length ≤ 6 := by
  unfold wdE
  simp only [List.length_append, List.length_cons, List.length_nil]
  split <;> split <;> split <;> split <;> simp
theorem f13a (e : Ev) : evE Dg 13 [eE e] = some (.str (txE e)) := by
  by_cases hv : errV e = 0
  · have v := val_of hv
    have := v.at0
    have := v.at1
    have := v.nb
    have := v.mb
    obtain ⟨f1, f2⟩ := v.frames
    obtain ⟨g1, g2⟩ := stT_len f2 f1
    refine f13 e (by omega) (by omega) (by omega) (by omega) (by omega) (fun _ => ?_)
    have h1 := join_le [32] (by simp) 1312 (wdE e) (fun s hs => (v.words s hs).2)
    have h2 := wd_len e
    have : (wdE e).length * (1312 + 1) ≤ 6 * (1312 + 1) := Nat.mul_le_mul_right _ h2
    omega
  · unfold txE
    rw [if_neg hv]
    exact f13_no e hv
theorem wd_inj {a b : Ev} (va : Val a) (vb : Val b) (h : wdE a = wdE b) : a = b := by
  obtain ⟨a1, k, a3, a4, a5, a6⟩ := a
  obtain ⟨b1, k', b3, b4, b5, b6⟩ := b
  have h' := h
  unfold wdE at h'
  simp only [List.cons_append, List.nil_append, List.append_assoc, List.cons.injEq] at h'
  obtain ⟨e1, e2, e3⟩ := h'
  have ka := va.nb; have kb := vb.nb; have ma := va.mb; have mb := vb.mb
  have a0 := va.at0; have a0' := va.at1; have b0 := vb.at0; have b0' := vb.at1
  have t1 := itoa_inj (by simp only at *; omega) (by simp only at *; omega) e1
  have k1 := kOf_kW va.k1 va.k2
  rw [e2, kOf_kW vb.k1 vb.k2] at k1
  simp only at t1 k1 ka kb ma mb e3
  subst t1
  subst k1
  have tail : ∀ {c : Bool} {x y : List UInt8} {u v : List (List UInt8)}, (if c = true then [x] else []) ++ u = (if c = true then [y] else []) ++ v → (c = true → x = y) ∧ u = v := fun {c x y u v} h => by
    cases c
    · simpa using h
    · simpa using h
  obtain ⟨n1, e4⟩ := tail e3
  obtain ⟨n2, e5⟩ := tail e4
  have en : a4 = b4 := by
    cases hB : kB k' with
    | true => exact itoa_inj ka kb (n2 hB)
    | false =>
      have := va.nn0 hB
      have := vb.nn0 hB
      simp only at *
      omega
  subst en
  obtain ⟨n3, e6⟩ := tail e5
  have em : a5 = b5 := by
    cases hu : uM (kC k') k' a4 with
    | true => exact itoa_inj (by omega) (by omega) (n3 hu)
    | false =>
      have := va.m0 hu
      have := vb.m0 hu
      simp only at *
      omega
  have enm : a3 = b3 := by
    cases hA : kA k' with
    | true => exact n1 hA
    | false =>
      have := va.nm0 hA
      have := vb.nm0 hA
      simp only at *
      rw [‹a3 = []›, ‹b3 = []›]
  have es : a6 = b6 := by
    cases hD : kD k' with
    | true =>
      rw [hD, if_pos rfl, if_pos rfl] at e6
      exact stT_inj va.frames.2 vb.frames.2 (List.cons.inj e6).1
    | false =>
      have := va.st0 hD
      have := vb.st0 hD
      simp only at *
      rw [‹a6 = []›, ‹b6 = []›]
  subst em
  subst enm
  subst es
  rfl
theorem tx_inj {a b : Ev} (ha : errV a = 0) (hb : errV b = 0) (h : txE a = txE b) : a = b := by
  have va := val_of ha
  have vb := val_of hb
  unfold txE at h
  rw [if_pos ha, if_pos hb] at h
  have ne : ∀ e : Ev, wdE e ≠ [] := fun e => by unfold wdE; simp
  exact wd_inj va vb (join_inj (ne a) (ne b) (fun s hs => (va.words s hs).1) (fun s hs => (vb.words s hs).1) h)
end Go.Proofs.YtidkdiooempkpaaDoor
