/- The operations that change no block: builtins and slices of slices. -/
import Derived.Test.YtlnaibkpmklkiaaEvG
import Derived.MapKept
namespace Go.Proofs.Ytlnaibkpmklkiaa
open Go Go.RowKit
set_option linter.unusedSectionVars false
variable [Bs]
set_option linter.unusedVariables false
set_option linter.unusedSimpArgs false

section
variable {P : Program} {call : Cl} {own : List Nat} {o : Oper}

theorem opds {m : Mem} {k : Nat} {sl : List PV} {a : Act} : ∀ (l : List Operand) (cs : List AO), (∀ t, Operand.tmp t ∈ l → Rep m k (sl.getD t .top) (a.tmps.getD t undef)) → digL l = some cs →
    cs.length = l.length ∧ ∀ (i : Nat) (p : PV), (cs.map (·.ev sl))[i]? = some p → Rep m k p ((l.map a.eval).getD i undef) := by
  intro l
  induction l with
  | nil => intro cs _ hc; simp [digL] at hc; subst hc; exact ⟨rfl, fun i p hp => by simp at hp⟩
  | cons x r ih =>
    intro cs hm hc
    simp only [digL] at hc
    split at hc
    · rename_i ax axs h1 h2
      cases hc
      obtain ⟨e1, e2⟩ := ih axs (fun t ht => hm t (by simp [ht])) h2
      refine ⟨by simp [e1], fun i p hp => ?_⟩
      cases i with
      | zero =>
        simp at hp
        subst hp
        simp
        exact opd h1 (fun t ht => hm t (by simp [ht]))
      | succ i => simpa using e2 i p (by simpa using hp)
    · cases hc

theorem call_ops {c : Call} {b : Builtin} (hcal : c.callee = .builtin b) (h : o.op = .call c) (t : Nat) (ht : Operand.tmp t ∈ c.args.toList) : Operand.tmp t ∈ o.op.operands := by
  rw [h]
  simp only [Op.operands, Call.operands, hcal]
  simpa using ht

theorem exec_builtin {c : Call} {b : Builtin} {a : Act} (hcal : c.callee = .builtin b) (h : o.op = .call c) :
    execOp a.eval o = builtin b c.argTypes o.type (c.args.map fun | .const _ => true | _ => false) (c.args.map a.eval) := by
  simp only [execOp, h, resolve, hcal]
  rfl

theorem minP_run {p q r : PV} {m : Mem} {k : Nat} {u v : Value} {w : World} (h : minP p q = some r) (hp : Rep m k p u) (hq : Rep m k q v) : ∃ z, (Builtin.min2 u v).run P w = .ok z w ∧ Rep m k r z := by
  unfold minP at h
  split at h
  · cases h
    obtain rfl := int_inv hp
    obtain rfl := int_inv hq
    exact ⟨_, rfl, .int⟩
  · cases h
theorem maxP_run {p q r : PV} {m : Mem} {k : Nat} {u v : Value} {w : World} (h : maxP p q = some r) (hp : Rep m k p u) (hq : Rep m k q v) : ∃ z, (Builtin.max2 u v).run P w = .ok z w ∧ Rep m k r z := by
  unfold maxP at h
  split at h
  · cases h
    obtain rfl := int_inv hp
    obtain rfl := int_inv hq
    exact ⟨_, by simp [Builtin.max2], .int⟩
  · cases h

theorem foldP_run {f : PV → PV → Option PV} {g : Value → Value → Sem Value} {m : Mem} {k : Nat} {w : World}
    (hf : ∀ p q r u v, f p q = some r → Rep m k p u → Rep m k q v → ∃ z, (g u v).run P w = .ok z w ∧ Rep m k r z) :
    ∀ (ps : List PV) (vs : List Value) (p r : PV) (u : Value), foldP f p ps = some r → Rep m k p u → ps.length = vs.length → (∀ (i : Nat) (q : PV), ps[i]? = some q → Rep m k q (vs.getD i undef)) →
      ∃ z, (vs.foldlM g u).run P w = .ok z w ∧ Rep m k r z := by
  intro ps
  induction ps with
  | nil =>
    intro vs p r u h hp hl _
    simp [foldP] at h
    subst h
    have : vs = [] := List.eq_nil_of_length_eq_zero (by simpa using hl.symm)
    subst this
    exact ⟨u, rfl, hp⟩
  | cons q ps ih =>
    intro vs p r u h hp hl hr
    cases vs with
    | nil => simp at hl
    | cons v vs =>
      simp only [foldP] at h
      split at h
      · rename_i s hs
        obtain ⟨z, h1, h2⟩ := hf _ _ _ _ _ hs hp (by simpa using hr 0 q rfl)
        obtain ⟨z2, h3, h4⟩ := ih vs s r z h h2 (by simpa using hl) (fun i q hq => by simpa using hr (i + 1) q (by simpa using hq))
        exact ⟨z2, by simp [List.foldlM_cons, h1, h3], h4⟩
      · cases h

theorem pur_len {c : Call} (h : o.op = .call c) (hcal : c.callee = .builtin .len) : PurSound P call own o := by
  intro ao B k m w sl bl BL a p ns next Q hd he hl hin hn
  simp only [digOp, h, hcal] at hd
  split at hd
  · rename_i args ha
    obtain ⟨h1, h2⟩ := opds (m := m) (k := k) (sl := sl) (a := a) c.args.toList args (fun t ht => hl t (call_ops hcal h t ht)) ha
    have hex := exec_builtin (a := a) hcal h
    generalize hcs : (c.args.map fun | .const _ => true | _ => false) = consts at hex
    simp only [digBuiltin] at hd
    split at hd
    · rename_i x t hb hty
      have hlen : c.args.toList.length = 1 := by simpa using h1.symm
      obtain ⟨ox, hox⟩ := List.length_eq_one_iff.1 hlen
      have hargs : c.args = #[ox] := by rw [← Array.toArray_toList (xs := c.args), hox]
      have htys : c.argTypes = #[t] := by rw [← Array.toArray_toList (xs := c.argTypes), hty]
      have rx : Rep m k (x.ev sl) (a.eval ox) := by have := h2 0 (x.ev sl) rfl; rw [hox] at this; simpa using this
      rw [hargs, htys] at hex
      have fin : ∀ n : Nat, (ao = .len x → True) → p = .int .i64 n → ns = [] → (Builtin.len_ #[t] o.type #[a.eval ox]).run P w = .ok (.int .i64 n) w → o.wp P a w next Q := by
        intro n _ hp hns hrun
        subst hp hns
        refine wp_of_run (v := .int .i64 n) ?_ (hn _ _ _ _ (PurOut.same hin.frz hin.own .int))
        rw [hex]
        simp [builtin, hrun]
      have slc : ∀ e, P.underlying t = some (.slice e) → ao = .len x → o.wp P a w next Q := by
        intro e hu hao
        subst hao
        simp only [evPur] at he
        split at he
        · rename_i ex e' rows hs
          rw [hs] at rx
          obtain ⟨base, cap, e1, _⟩ := sl_inv rx
          cases he
          exact fin rows.length (fun _ => trivial) rfl rfl (by rw [e1]; simp [Builtin.len_, run_underlying hu, goInt])
        · rename_i hs
          rw [hs] at rx
          obtain ⟨ad, e1⟩ := nilS_inv rx
          cases he
          exact fin 0 (fun _ => trivial) rfl rfl (by rw [e1]; simp [Builtin.len_, run_underlying hu, goInt])
        · rename_i b ver lo len hs
          split at he
          · rename_i bx hgb
            cases he
            rw [hs] at rx
            obtain ⟨inf, g1, g2, g3, g4, g5⟩ := own_inv rx
            obtain ⟨hat, hver⟩ := blk_of hin hgb g2
            rcases g5 hver with ⟨hz, hz2, ad, e1⟩ | ⟨hv, cap, e1, _⟩
            · exact fin len (fun _ => trivial) rfl rfl (by rw [e1, hz]; simp [Builtin.len_, run_underlying hu, goInt])
            · exact fin len (fun _ => trivial) rfl rfl (by rw [e1]; simp [Builtin.len_, run_underlying hu, goInt])
          · cases he
        · cases he
      split at hd
      · rename_i hu
        cases hd
        simp only [evPur] at he
        split at he
        · rename_i s hs
          rw [hs] at rx
          obtain ⟨s', e1, e2⟩ := str_inv rx
          cases he
          exact fin s.length (fun _ => trivial) rfl rfl (by rw [e1, ← e2]; simp [Builtin.len_, run_underlying hu, goInt])
        · cases he
      · rename_i K E hu
        cases hd
        simp only [evPur] at he
        split at he
        · rename_i rows hrows
          cases he
          unfold mapRows at hrows
          split at hrows
          · rename_i b ver hv
            split at hrows
            · rename_i bx hgm
              cases hrows
              rw [hv] at rx
              obtain ⟨inf, g2, g5⟩ : ∃ i, m.blk b = some i ∧ (i.ver = ver → a.eval ox = .map (some i.g)) := by
                generalize a.eval ox = u at rx
                generalize hp : PV.mp b ver = p0 at rx
                cases rx <;> cases hp
                exact ⟨_, by assumption, by assumption⟩
              obtain ⟨q1, q2, q3⟩ := getM_spec hgm
              have hat := (hin.own.at_ b bx inf (hin.old q1) g2).map q3
              obtain ⟨es, clock, e1, e2, _⟩ := hat.mem
              refine fin bx.rows.length (fun h => by cases h) rfl rfl ?_
              rw [g5 (hat.ver.trans q2)]
              simp [Builtin.len_, run_underlying hu, MapKept.run_getObj_map e1, goInt, e2.1]
            · cases hrows
          · rename_i hv
            cases hrows
            rw [hv] at rx
            have e1 : a.eval ox = .map none := by
              generalize a.eval ox = u at rx
              generalize hp : PV.v (.map none) = p0 at rx
              cases rx <;> cases hp
              rfl
            exact fin 0 (fun h => by cases h) rfl rfl (by rw [e1]; simp [Builtin.len_, run_underlying hu, goInt])
          · cases hrows
        · cases he
      · rename_i e hu
        cases hd
        exact slc e hu rfl
      · rename_i n e hu
        cases hd
        simp only [evPur] at he
        cases he
        exact fin n (fun h => by cases h) rfl rfl (by simp [Builtin.len_, run_underlying hu, goInt])
      · cases hd
    all_goals simp_all
  · cases hd

theorem pur_cap {c : Call} (h : o.op = .call c) (hcal : c.callee = .builtin .cap) : PurSound P call own o := by
  intro ao B k m w sl bl BL a p ns next Q hd he hl hin hn
  simp only [digOp, h, hcal] at hd
  split at hd
  · rename_i args ha
    obtain ⟨h1, h2⟩ := opds (m := m) (k := k) (sl := sl) (a := a) c.args.toList args (fun t ht => hl t (call_ops hcal h t ht)) ha
    have hex := exec_builtin (a := a) hcal h
    generalize hcs : (c.args.map fun | .const _ => true | _ => false) = consts at hex
    simp only [digBuiltin] at hd
    split at hd
    case h_2 =>
      rename_i x t hb hty
      have hlen : c.args.toList.length = 1 := by simpa using h1.symm
      obtain ⟨ox, hox⟩ := List.length_eq_one_iff.1 hlen
      have hargs : c.args = #[ox] := by rw [← Array.toArray_toList (xs := c.args), hox]
      have htys : c.argTypes = #[t] := by rw [← Array.toArray_toList (xs := c.argTypes), hty]
      have rx : Rep m k (x.ev sl) (a.eval ox) := by have := h2 0 (x.ev sl) rfl; rw [hox] at this; simpa using this
      rw [hargs, htys] at hex
      split at hd
      · rename_i e hu
        cases hd
        simp only [evPur] at he
        split at he
        · rename_i hs
          rw [hs] at rx
          obtain ⟨ad, e1⟩ := nilS_inv rx
          cases he
          refine wp_of_run (v := .int .i64 0) ?_ (hn _ _ _ _ (PurOut.same hin.frz hin.own .int))
          rw [hex]
          simp [builtin, e1, Builtin.cap_, run_underlying hu, goInt]
        · cases he
      · cases hd
    all_goals first | (cases hd; done) | simp_all
  · cases hd

theorem getD_toList (vs : Array Value) (i : Nat) : vs.getD i undef = vs.toList.getD i undef := by
  rw [Array.getD_eq_getD_getElem?, List.getD_eq_getElem?_getD]; simp

theorem pur_minmax {c : Call} {b : Builtin} (h : o.op = .call c) (hcal : c.callee = .builtin b) (hb : b = .min ∨ b = .max) : PurSound P call own o := by
  intro ao B k m w sl bl BL a p ns next Q hd he hl hin hn
  simp only [digOp, h, hcal] at hd
  split at hd
  · rename_i args ha
    obtain ⟨h1, h2⟩ := opds (m := m) (k := k) (sl := sl) (a := a) c.args.toList args (fun t ht => hl t (call_ops hcal h t ht)) ha
    have hex := exec_builtin (a := a) hcal h
    generalize hcs : (c.args.map fun | .const _ => true | _ => false) = consts at hex
    have hml : (c.args.map a.eval).toList = c.args.toList.map a.eval := by simp
    rcases hb with rfl | rfl
    · simp only [digBuiltin] at hd
      cases hd
      simp only [evPur] at he
      split at he
      · rename_i q qs hq
        split at he
        · rename_i r hr
          cases he
          have hl2 : (c.args.toList.map a.eval).length = (q :: qs).length := by rw [← hq]; simp [h1]
          cases hv : c.args.toList.map a.eval with
          | nil => rw [hv] at hl2; simp at hl2
          | cons u us =>
            rw [hv] at hl2
            have hr0 : ∀ (i : Nat) (p : PV), (q :: qs)[i]? = some p → Rep m k p ((u :: us).getD i undef) := fun i p hp => by rw [← hq] at hp; rw [← hv]; exact h2 i p hp
            obtain ⟨z, hz, hzr⟩ := foldP_run (m := m) (k := k) (w := w) (P := P) (f := minP) (g := Builtin.min2) (fun _ _ _ _ _ => minP_run) qs us q p u hr (by simpa using hr0 0 q rfl) (by simpa using hl2.symm)
              (fun i p hp => by simpa using hr0 (i + 1) p (by simpa using hp))
            refine wp_of_run (v := z) ?_ (hn _ _ _ _ (PurOut.same hin.frz hin.own hzr))
            rw [hex]
            simp [builtin, Builtin.min_, hv, hz]
        · cases he
      · cases he
    · simp only [digBuiltin] at hd
      cases hd
      simp only [evPur] at he
      split at he
      · rename_i q qs hq
        split at he
        · rename_i r hr
          cases he
          have hl2 : (c.args.toList.map a.eval).length = (q :: qs).length := by rw [← hq]; simp [h1]
          cases hv : c.args.toList.map a.eval with
          | nil => rw [hv] at hl2; simp at hl2
          | cons u us =>
            rw [hv] at hl2
            have hr0 : ∀ (i : Nat) (p : PV), (q :: qs)[i]? = some p → Rep m k p ((u :: us).getD i undef) := fun i p hp => by rw [← hq] at hp; rw [← hv]; exact h2 i p hp
            obtain ⟨z, hz, hzr⟩ := foldP_run (m := m) (k := k) (w := w) (P := P) (f := maxP) (g := Builtin.max2) (fun _ _ _ _ _ => maxP_run) qs us q p u hr (by simpa using hr0 0 q rfl) (by simpa using hl2.symm)
              (fun i p hp => by simpa using hr0 (i + 1) p (by simpa using hp))
            refine wp_of_run (v := z) ?_ (hn _ _ _ _ (PurOut.same hin.frz hin.own hzr))
            rw [hex]
            simp [builtin, Builtin.max_, hv, hz]
        · cases he
      · cases he
  · cases hd

/-- an optional bound: none (then d) or a number -/
def OptIs (v : Option Value) (d n : Int) : Prop := (v = none ∧ n = d) ∨ ∃ k, v = some (.int k n)

theorem optI_is {m : Mem} {k : Nat} {sl : List PV} {a : Act} {x : Option Operand} {ax : Option AO} {d : Nat} {n : Int} (hd : digM x = some ax) (hl : ∀ t, x = some (.tmp t) → Rep m k (sl.getD t .top) (a.tmps.getD t undef)) (h : optI sl d ax = some n) :
    OptIs (x.map a.eval) d n := by
  cases x with
  | none => simp [digM] at hd; subst hd; simp [optI] at h; subst h; exact .inl ⟨rfl, rfl⟩
  | some x =>
    simp only [digM] at hd
    split at hd
    · rename_i ax' hx
      cases hd
      simp only [optI] at h
      split at h
      · rename_i j n' hj
        cases h
        have := opd (a := a) (m := m) (k := k) (sl := sl) hx (fun t ht => hl t (by rw [ht]))
        rw [hj] at this
        exact .inr ⟨j, by rw [Option.map_some, int_inv this]⟩
      · cases h
    · cases hd

theorem run_bound {w : World} {j : IntKind} {n : Int} {y : Nat} {c : BoundsCode} (h0 : 0 ≤ n) (h1 : n ≤ y) : (Instr.sliceBound (.int j n) y c).run P w = .ok n.toNat w := by
  simp [Instr.sliceBound, asIntOf, h0, h1]

theorem run_bounds2 {w : World} {isS : Bool} {len cap : Nat} {lo hi : Option Value} {l h : Int} (hlo : OptIs lo 0 l) (hhi : OptIs hi len h) (h0 : 0 ≤ l) (h1 : l ≤ h) (h2 : h ≤ cap) :
    (Instr.sliceBounds isS len cap lo hi none).run P w = .ok (l.toNat, h.toNat, cap) w := by
  have b2 : ∀ j c, (Instr.sliceBound (.int j h) cap c).run P w = .ok h.toNat w := fun j c => run_bound (by omega) h2
  have b1 : ∀ j c, (Instr.sliceBound (.int j l) h.toNat c).run P w = .ok l.toNat w := fun j c => run_bound h0 (by omega)
  rcases hlo with ⟨rfl, rfl⟩ | ⟨j1, rfl⟩ <;> rcases hhi with ⟨rfl, rfl⟩ | ⟨j2, rfl⟩ <;> simp_all [Instr.sliceBounds]

theorem run_bounds3 {w : World} {isS : Bool} {len cap : Nat} {lo hi : Option Value} {l h mx : Int} {j3 : IntKind} (hlo : OptIs lo 0 l) (hhi : ∃ j, hi = some (.int j h)) (h0 : 0 ≤ l) (h1 : l ≤ h) (h2 : h ≤ mx) (h3 : mx ≤ cap) :
    (Instr.sliceBounds isS len cap lo hi (some (.int j3 mx))).run P w = .ok (l.toNat, h.toNat, mx.toNat) w := by
  have b3 : ∀ j c, (Instr.sliceBound (.int j mx) cap c).run P w = .ok mx.toNat w := fun j c => run_bound (by omega) h3
  have b2 : ∀ j c, (Instr.sliceBound (.int j h) mx.toNat c).run P w = .ok h.toNat w := fun j c => run_bound (by omega) (by omega)
  have b1 : ∀ j c, (Instr.sliceBound (.int j l) h.toNat c).run P w = .ok l.toNat w := fun j c => run_bound h0 (by omega)
  obtain ⟨j2, rfl⟩ := hhi
  rcases hlo with ⟨rfl, rfl⟩ | ⟨j1, rfl⟩ <;> simp_all [Instr.sliceBounds]

theorem rep_sub {m : Mem} {k : Nat} {ex' : Bool} {e : Nat} {rows : List (List PV)} {base : Option Addr} {cap l h c : Nat} (h1 : rows.length ≤ cap) (hcm : cap ≤ maxLen)
    (h5 : rows = [] ∨ ∃ b off, base = some ⟨b, off, none⟩ ∧ (∀ r ∈ rows, r.length = e) ∧ ∀ (i : Nat) (row : List PV) (j : Nat) (p : PV), rows[i]? = some row → row[j]? = some p → ∃ u, m.cell b (off + i * e + j) = some u ∧ Rep m 0 p u)
    (hl : l ≤ h) (hh : h ≤ rows.length) (hc : h - l ≤ c) (hc2 : c ≤ cap) (hex : ex' = true → c = h - l) :
    Rep m k (.sl ex' e ((rows.take h).drop l)) (.slice (if c = 0 then base else base.map fun a => a.add (l * e)) (h - l) c) := by
  have hlen : ((rows.take h).drop l).length = h - l := by simp; omega
  by_cases hz : h - l = 0
  · have : (rows.take h).drop l = [] := List.eq_nil_of_length_eq_zero (by omega)
    rw [this, hz]
    exact .slz (by omega) (fun he => by have := hex he; omega)
  · rw [if_neg (by omega)]
    rcases h5 with rfl | ⟨b, off, rfl, h6, h7⟩
    · simp at hh; omega
    · rw [Option.map_some, Addr.add_lit, ← hlen]
      have key : ∀ (i : Nat) (row : List PV) (j : Nat) (p : PV), ((rows.take h).drop l)[i]? = some row → row[j]? = some p → ∃ u, m.cell b (off + l * e + i * e + j) = some u ∧ Rep m 0 p u := by
        intro i row j p hr hp
        rw [List.getElem?_drop, List.getElem?_take] at hr
        split at hr
        · obtain ⟨u, hu, hrep⟩ := h7 _ row j p hr hp
          refine ⟨u, ?_, hrep⟩
          rw [Nat.add_mul] at hu
          rw [← hu]; congr 1; omega
        · cases hr
      refine .sl (vals := fun i j => (m.cell b (off + l * e + i * e + j)).getD undef) (by omega) (by omega) (fun he => by have := hex he; omega) (fun r hr => h6 r (List.mem_of_mem_take (List.mem_of_mem_drop hr))) (fun i j row p hr hp => ?_) (fun i j row p hr hp => ?_)
      · obtain ⟨u, hu, _⟩ := key i row j p hr hp; simp [hu]
      · obtain ⟨u, hu, hrep⟩ := key i row j p hr hp; simpa [hu] using hrep

theorem pur_slc {t : TypeId} {x : Operand} {lo hi mx : Option Operand} (h : o.op = .slice t x lo hi mx) : PurSound P call own o := by
  intro ao B k m w sl bl BL a p ns next Q hd he hl hin hn
  simp only [digOp, h] at hd
  have hop : ∀ y, (y = some x ∨ y = lo ∨ y = hi ∨ y = mx) → ∀ t, y = some (.tmp t) → Rep m k (sl.getD t .top) (a.tmps.getD t undef) := by
    intro y hy t ht
    refine hl t ?_
    rw [h]
    simp only [Op.operands]
    rcases hy with rfl | rfl | rfl | rfl <;> simp_all
  split at hd
  · rename_i ax alo ahi hu hx hlo hhi hmx
    cases hd
    have hmx0 : mx = none := by
      cases mx with
      | none => rfl
      | some y => simp only [digM] at hmx; split at hmx <;> cases hmx
    subst hmx0
    have rx := opd (a := a) (m := m) (k := k) (sl := sl) hx (fun t ht => hop (some x) (.inl rfl) t (by rw [ht]))
    simp only [evPur] at he
    split at he
    · rename_i s l hs hl0 hl1
      split at he
      · rename_i hh hhi0
        split at he
        · rename_i hc
          cases he
          rw [hs] at rx
          obtain ⟨s', e1, e2⟩ := str_inv rx
          have o1 := optI_is (a := a) (m := m) (k := k) hlo (hop lo (by simp)) hl0
          have o2 := optI_is (a := a) (m := m) (k := k) hhi (hop hi (by simp)) hhi0
          have hsz : s.length = s'.size := by rw [← e2]; rfl
          rw [hsz] at o2 hc
          have hrun := run_bounds2 (P := P) (w := w) (isS := false) (cap := s'.size) o1 o2 hc.1 hc.2.1 hc.2.2
          refine wp_of_run (v := .string (s'.extract l.toNat hh.toNat)) ?_ (hn _ _ _ _ (PurOut.same hin.frz hin.own ?_))
          · simp [execOp, h, e1, Instr.sliceAt, Instr.slice, run_underlying hu, hrun]
          · have e3 : (s.take hh.toNat).drop l.toNat = (s'.extract l.toNat hh.toNat).data.toList := by
              rw [← e2, ByteArray.data_extract]
              simp [List.extract_eq_drop_take']
            rw [e3]
            exact .str
        · cases he
      · cases he
    · cases he
  · rename_i e ax alo ahi amx hu hx hlo hhi hmx
    split at hd
    · rename_i ti hti
      split at hd
      · cases hd
      · rename_i hmh
        cases hd
        have rx := opd (a := a) (m := m) (k := k) (sl := sl) hx (fun t ht => hop (some x) (.inl rfl) t (by rw [ht]))
        have hsz : (sizeOf e).run P w = .ok ti.size w := by simp [sizeOf, typeInfo, hti]
        have run2 : ∀ (base : Option Addr) (len cap : Nat) (l h' : Int), mx = none → a.eval x = .slice base len cap → OptIs (lo.map a.eval) 0 l → OptIs (hi.map a.eval) len h' → 0 ≤ l → l ≤ h' → h' ≤ cap →
            (execOp a.eval o).run P w = .ok (.value (.slice (if cap = l.toNat then base else base.map fun ad => ad.add (l.toNat * ti.size)) (h'.toNat - l.toNat) (cap - l.toNat))) w := by
          intro base len cap l h' hm0 hxv o1 o2 c0 c1 c2
          subst hm0
          have hrun := run_bounds2 (P := P) (w := w) (isS := true) (cap := cap) o1 o2 c0 c1 c2
          simp [execOp, h, hxv, Instr.sliceAt, Instr.slice, run_underlying hu, hrun, hsz]
        have run3 : ∀ (base : Option Addr) (len cap : Nat) (l h' mv : Int) (j3 : IntKind), mx.map a.eval = some (.int j3 mv) → a.eval x = .slice base len cap → OptIs (lo.map a.eval) 0 l → (∃ j, hi.map a.eval = some (.int j h')) → 0 ≤ l → l ≤ h' → h' ≤ mv → mv ≤ cap →
            (execOp a.eval o).run P w = .ok (.value (.slice (if mv.toNat = l.toNat then base else base.map fun ad => ad.add (l.toNat * ti.size)) (h'.toNat - l.toNat) (mv.toNat - l.toNat))) w := by
          intro base len cap l h' mv j3 hm0 hxv o1 o2 c0 c1 c2 c3
          have hrun := run_bounds3 (P := P) (w := w) (isS := true) (cap := cap) (len := len) (j3 := j3) o1 o2 c0 c1 c2 c3
          simp [execOp, h, hxv, Instr.sliceAt, Instr.slice, run_underlying hu, hm0, hrun, hsz]
        have hmxo : ∀ (d : Nat) (n : Int), optI sl d amx = some n → OptIs (mx.map a.eval) d n := fun d n hh => optI_is (a := a) (m := m) (k := k) hmx (hop mx (by simp)) hh
        simp only [evPur] at he
        split at he
        · rename_i ex e' rows l hs hl0
          rw [hs] at rx
          obtain ⟨base, cap, e1, e2, e3, e4, e5⟩ := sl_inv rx
          have o1 := optI_is (a := a) (m := m) (k := k) hlo (hop lo (by simp)) hl0
          split at he
          · rename_i hee
            subst hee
            split at he
            · rename_i hh hhi0
              have o2 := optI_is (a := a) (m := m) (k := k) hhi (hop hi (by simp)) hhi0
              split at he
              · split at he
                · rename_i hc
                  cases he
                  have hm0 : mx = none := by
                    cases mx with
                    | none => rfl
                    | some y => simp only [digM] at hmx; split at hmx <;> cases hmx
                  refine wp_of_run (run2 _ _ _ _ _ hm0 e1 o1 o2 hc.1 hc.2.1 (by omega)) (hn _ _ _ _ (PurOut.same hin.frz hin.own ?_))
                  have hrs := rep_sub (m := m) (k := k) (ex' := ex && hh == (rows.length : Int)) (l := l.toNat) (h := hh.toNat) (c := cap - l.toNat) e2 e3 e5 (by omega) (by omega) (by omega) (by omega) (fun hx => by
                    simp only [Bool.and_eq_true, beq_iff_eq] at hx
                    have := e4 hx.1
                    omega)
                  have hiff : (cap = l.toNat) = (cap - l.toNat = 0) := by apply propext; omega
                  simp only [hiff]
                  exact hrs
                · cases he
              · rename_i amx' 
                split at he
                · rename_i j3 mv hmv
                  split at he
                  · rename_i hc
                    cases he
                    have o3 := hmxo 0 mv (by simp [optI, hmv])
                    have hmx1 : ∃ y, mx = some y := by
                      cases mx with
                      | none => simp [digM] at hmx
                      | some y => exact ⟨y, rfl⟩
                    obtain ⟨y, rfl⟩ := hmx1
                    rcases o3 with ⟨o3, _⟩ | ⟨j3', o3⟩
                    · simp at o3
                    · have o2' : ∃ j, hi.map a.eval = some (.int j hh) := by
                        rcases o2 with ⟨o2, _⟩ | o2
                        · exfalso
                          cases hi with
                          | none => simp [digM] at hhi; subst hhi; simp at hmh
                          | some _ => simp at o2
                        · exact o2
                      refine wp_of_run (run3 _ _ _ _ _ _ _ o3 e1 o1 o2' hc.1 hc.2.1 hc.2.2.1 (by omega)) (hn _ _ _ _ (PurOut.same hin.frz hin.own ?_))
                      have hrs := rep_sub (m := m) (k := k) (ex' := hh == mv) (l := l.toNat) (h := hh.toNat) (c := mv.toNat - l.toNat) e2 e3 e5 (by omega) (by omega) (by omega) (by omega) (fun hx => by
                        simp only [beq_iff_eq] at hx
                        omega)
                      have hiff : (mv.toNat = l.toNat) = (mv.toNat - l.toNat = 0) := by apply propext; omega
                      simp only [hiff]
                      exact hrs
                  · cases he
                · cases he
            · cases he
          · cases he
        · rename_i l hs hl0
          rw [hs] at rx
          obtain ⟨ad, e1⟩ := nilS_inv rx
          have o1 := optI_is (a := a) (m := m) (k := k) hlo (hop lo (by simp)) hl0
          split at he
          · rename_i hh mv hhi0 hmv
            split at he
            · rename_i hc
              cases he
              obtain ⟨rfl, rfl, rfl⟩ := hc
              have o2 := optI_is (a := a) (m := m) (k := k) hhi (hop hi (by simp)) hhi0
              have o3 := hmxo 0 0 hmv
              rcases o3 with ⟨o3, _⟩ | ⟨j3, o3⟩
              · have hm0 : mx = none := by simpa using o3
                exact wp_of_run (run2 _ _ _ _ _ hm0 e1 o1 o2 (Int.le_refl _) (Int.le_refl _) (by simp)) (hn _ _ _ _ (PurOut.same hin.frz hin.own .nilS))
              · have o2' : ∃ j, hi.map a.eval = some (.int j 0) := by
                  rcases o2 with ⟨o2, _⟩ | o2
                  · exfalso
                    cases hi with
                    | none =>
                      simp [digM] at hhi
                      subst hhi
                      cases mx with
                      | none => simp at o3
                      | some y =>
                        simp only [digM] at hmx
                        split at hmx
                        · cases hmx; simp at hmh
                        · cases hmx
                    | some _ => simp at o2
                  · exact o2
                exact wp_of_run (run3 _ _ _ _ _ _ _ o3 e1 o1 o2' (Int.le_refl _) (Int.le_refl _) (Int.le_refl _) (by simp)) (hn _ _ _ _ (PurOut.same hin.frz hin.own .nilS))
            · cases he
          · cases he
        · rename_i b ver lo0 len l hs hl0
          rw [hs] at rx
          have o1 := optI_is (a := a) (m := m) (k := k) hlo (hop lo (by simp)) hl0
          obtain ⟨inf, g1, g2, g3, g4, g5⟩ := own_inv rx
          split at he
          · rename_i bx hgb
            obtain ⟨hat, hver⟩ := blk_of hin hgb g2
            split at he
            · rename_i hee
              split at he
              · rename_i hh hhi0
                have o2 := optI_is (a := a) (m := m) (k := k) hhi (hop hi (by simp)) hhi0
                split at he
                · split at he
                  · rename_i hc
                    cases he
                    have hm0 : mx = none := by
                      cases mx with
                      | none => rfl
                      | some y => simp only [digM] at hmx; split at hmx <;> cases hmx
                    rcases g5 hver with ⟨hz, hz2, ad, e1⟩ | ⟨hv, cap, e1, f1, f2, f3⟩
                    · have hl' : l = 0 := by omega
                      have hh' : hh = 0 := by omega
                      subst hz hl' hh'
                      refine wp_of_run (run2 _ _ _ _ _ hm0 e1 o1 o2 (Int.le_refl _) (Int.le_refl _) (by simp)) (hn _ _ _ _ (PurOut.same hin.frz hin.own (.own g1 g2 g3 (by simp [Value.oneCell']) (fun _ => ?_))))
                      exact .inl ⟨by simp, by simpa using hz2, ad, by simp⟩
                    · refine wp_of_run (run2 _ _ _ _ _ hm0 e1 o1 o2 hc.1 hc.2.1 (by omega)) (hn _ _ _ _ (PurOut.same hin.frz hin.own (.own g1 g2 g3 (by simp [Value.oneCell']) (fun _ => ?_))))
                      by_cases hcl : cap = l.toNat
                      · left
                        refine ⟨by omega, by omega, some ⟨inf.g, lo0 * inf.e, none⟩, ?_⟩
                        rw [if_pos hcl, show hh.toNat - l.toNat = 0 by omega, show cap - l.toNat = 0 by omega]
                      · right
                        refine ⟨hv, cap - l.toNat, ?_, by omega, by omega, by omega⟩
                        rw [if_neg hcl, Option.map_some, Addr.add_lit, ← hee, ← hat.e, Nat.add_mul]
                  · cases he
                · split at he
                  · rename_i j3 mv hmv
                    split at he
                    · rename_i hc
                      cases he
                      obtain ⟨rfl, rfl, rfl⟩ := hc
                      have o3 := hmxo 0 0 (by simp [optI, hmv])
                      rcases o3 with ⟨o3, _⟩ | ⟨j3', o3⟩
                      · exfalso
                        cases mx with
                        | none => simp [digM] at hmx
                        | some y => simp at o3
                      · have o2' : ∃ j, hi.map a.eval = some (.int j 0) := by
                          rcases o2 with ⟨o2, _⟩ | o2
                          · exfalso
                            cases hi with
                            | none => simp [digM] at hhi; subst hhi; simp at hmh
                            | some _ => simp at o2
                          · exact o2
                        have fin : ∀ (base : Option Addr) (cap : Nat), a.eval x = .slice base len cap → o.wp P a w next Q := fun base cap e1 =>
                          wp_of_run (run3 base len cap 0 0 0 j3' o3 e1 o1 o2' (Int.le_refl _) (Int.le_refl _) (Int.le_refl _) (by simp)) (hn _ _ _ _ (PurOut.same hin.frz hin.own (by simpa using Rep.nilS)))
                        rcases g5 hver with ⟨hz, hz2, ad, e1⟩ | ⟨hv, cap, e1, f1, f2, f3⟩
                        · subst hz
                          exact fin _ _ e1
                        · exact fin _ _ e1
                    · cases he
                  · cases he
              · cases he
            · cases he
          · cases he
        · cases he
    · cases hd
  · rename_i n e ax ahi hu hx hlo hhi hmx
    split at hd
    · rename_i ti hti
      cases hd
      have hlo0 : lo = none := by
        cases lo with
        | none => rfl
        | some y => simp only [digM] at hlo; split at hlo <;> cases hlo
      have hmx0 : mx = none := by
        cases mx with
        | none => rfl
        | some y => simp only [digM] at hmx; split at hmx <;> cases hmx
      subst hlo0 hmx0
      have rx := opd (a := a) (m := m) (k := k) (sl := sl) hx (fun t ht => hop (some x) (.inl rfl) t (by rw [ht]))
      have hsz : (sizeOf e).run P w = .ok ti.size w := by simp [sizeOf, typeInfo, hti]
      simp only [evPur] at he
      split at he
      · rename_i b ver r off hp
        split at he
        · rename_i bx hgb
          split at he
          · rename_i hh hhi0
            split at he
            · rename_i hc
              obtain ⟨rfl, rfl, c1, c2, c3, c4, c5⟩ := hc
              cases he
              rw [hp] at rx
              obtain ⟨inf, g1, g2, g3, g4, g5⟩ := ptr_inv rx
              obtain ⟨hat, hver⟩ := blk_of hin hgb g2
              have hn1 := hat.n
              have hvirt : inf.virt = false ∧ inf.n ≤ inf.cap := by
                rcases hat.mem with ⟨_, hr⟩ | ⟨hv, _, _, _, _, q, _⟩
                · rw [hr] at c2; simp at c2; omega
                · exact ⟨hv, q⟩
              have hv := g5 hver hvirt.1
              simp only [Nat.zero_mul, Nat.zero_add] at hv
              have o2 := optI_is (a := a) (m := m) (k := k) hhi (hop hi (by simp)) hhi0
              have hrun := run_bounds2 (P := P) (w := w) (isS := false) (lo := none) (l := 0) (cap := n) (.inl ⟨rfl, rfl⟩) o2 (Int.le_refl _) c4 c5
              have hnz : ¬ n = 0 := by omega
              refine wp_of_run (v := .slice (some ⟨inf.g, 0, none⟩) hh.toNat n) ?_ (hn _ _ _ _ (PurOut.same hin.frz hin.own (.own g1 g2 g3 (by simp [Value.oneCell']) (fun _ => ?_))))
              · simp [execOp, h, hv, Instr.sliceAt, Instr.sureAddr, run_underlying hu, hrun, hsz, hnz, Addr.add_lit]
              · exact .inr ⟨hvirt.1, n, by simp, by omega, by omega, by have := hvirt.2; omega⟩
            · cases he
          · cases he
        · cases he
      · cases he
    · cases hd
  · cases hd

end
end Go.Proofs.Ytlnaibkpmklkiaa
