/- Maps: made, and read. -/
import Derived.Test.YtkdalahepedghaaEvM
namespace Go.Proofs.Ytkdalahepedghaa
open Go Go.RowKit
set_option linter.unusedSectionVars false
variable [Bs]
set_option linter.unusedVariables false
set_option linter.unusedSimpArgs false

section
variable {P : Program} {call : Cl} {own : List Nat} {o : Oper}

theorem pur_mkmap {t : TypeId} {r : Option Operand} (h : o.op = .makeMap t r) : PurSound P call own o := by
  intro ao B k m w sl bl BL a p ns next Q hd he hl hin hn
  simp only [digOp, h] at hd
  split at hd
  · rename_i K E r' hu hr
    cases hd
    have main : p = .mp bl.length 0 → ns = [⟨0, mapE, true, []⟩] → (Instr.makeMap t (r.map a.eval)).run P w = .ok (.map (some w.heap.size)) (w.alloc (.map #[] 0)) → o.wp P a w next Q := by
      rintro rfl rfl hrun
      obtain ⟨h1, h3⟩ := hin.one
      refine wp_of_run (by simp only [execOp, h]; exact run_value hrun) (hn _ _ _ _ (PurOut.newA ⟨w.heap.size, 0, mapE, 0, 0, false⟩ hin.frz hin.own hin.hB h1 h3 ((Below.refl _ _).alloc (Nat.le_refl _) _) (.inr (.inl ⟨rfl, rfl, rfl, #[], 0, heap_alloc_new w _, ⟨rfl, fun r row hr => by simp at hr⟩, ⟨fun e he => by simp at he, by simp⟩⟩)) (fun _ => Nat.le_refl _) ?_))
      exact .mp (by omega) (Mem.addBlk_same _ _ _) (Nat.le_refl _) rfl (fun _ => rfl)
    cases r with
    | none =>
      simp [digM] at hr
      subst hr
      simp only [evPur] at he
      cases he
      exact main rfl rfl (run_makeMap t w)
    | some x =>
      simp only [digM] at hr
      split at hr
      · rename_i ax hx
        cases hr
        simp only [evPur] at he
        split at he
        · rename_i j n hv
          cases he
          have rx := opd (a := a) (m := m) (k := k) (sl := sl) hx (fun t ht => hl t (by simp [h, Op.operands, ht]))
          rw [hv] at rx
          refine main rfl rfl ?_
          rw [Option.map_some, int_inv rx]
          simp [Instr.makeMap, run_underlying hu, asInt, asIntOf, Result.andThen]
        · cases he
      · cases hr
  · cases hd

theorem mp_inv {m : Mem} {k b ver : Nat} {v : Value} (h : Rep m k (.mp b ver) v) : ∃ i, b < k ∧ m.blk b = some i ∧ ver ≤ i.ver ∧ v.oneCell' = true ∧ (i.ver = ver → v = .map (some i.g)) := by
  generalize hp : PV.mp b ver = p at h
  cases h <;> cases hp
  exact ⟨_, by assumption, by assumption, by assumption, by assumption, by assumption⟩
theorem v_inv' {m : Mem} {k : Nat} {x v : Value} (h : Rep m k (.v x) v) : v = x := by cases h; rfl

/-- a type's zero value -/
theorem zeroS_spec {E : TypeId} {zp : PV} (h : zeroS P E = some zp) : ∃ i zv, P.info? E = some i ∧ i.zero = some zv ∧ ∀ m k, Rep m k zp zv := by
  unfold zeroS at h
  split at h
  · rename_i i hi
    split at h
    · rename_i cs hz
      cases h
      refine ⟨i, _, hi, hz, fun m k => .agg (by simp) (fun j p hp => ?_)⟩
      rw [List.getElem?_map] at hp
      cases hc : cs.toList[j]? with
      | none => rw [hc] at hp; cases hp
      | some v =>
        rw [hc] at hp
        cases hp
        have : cs.getD j undef = v := by
          rw [Array.getD_eq_getD_getElem?]
          have : cs[j]? = some v := by simpa using hc
          rw [this]; rfl
        rw [this]
        exact (rep_ofVal m v).up (Nat.zero_le _)
    · rename_i v _ hz
      cases h
      exact ⟨i, v, hi, hz, fun m k => (rep_ofVal m v).up (Nat.zero_le _)⟩
    · cases h
  · cases h

theorem keyC_scal {ag : Bool} {p : PV} {kc : List PV} (h : keyC ag p = some kc) : scal ag kc = some p := by
  cases p <;> cases ag <;> simp [keyC] at h <;> subst h <;> simp [scal]

/-- kinds that fit -/
theorem eq1_key {m : Mem} {k : Nat} {t : TypeId} {c : KK} {p q : PV} {u : Value} {b : Bool} (hc : (c = .b ∧ P.underlying t = some .bool) ∨ (c = .i ∧ ∃ k, P.underlying t = some (.int k)) ∨ (c = .s ∧ P.underlying t = some .string)) (hp : Rep m k p u) (h : eq1 c p q = some b) :
    (P.underlying t = some .bool ∧ ∃ x, u = .bool x) ∨ (∃ k1 k2 n, P.underlying t = some (.int k1) ∧ u = .int k2 n) ∨ (P.underlying t = some .string ∧ ∃ s, u = .string s) := by
  rcases hc with ⟨rfl, hu⟩ | ⟨rfl, k1, hu⟩ | ⟨rfl, hu⟩
  · cases p <;> cases q <;> simp [eq1] at h
    exact .inl ⟨hu, _, bool_inv hp⟩
  · cases p <;> cases q <;> simp [eq1] at h
    exact .inr (.inl ⟨_, _, _, hu, int_inv hp⟩)
  · cases p <;> cases q <;> simp [eq1] at h
    obtain ⟨s1, rfl, e1⟩ := str_inv hp
    exact .inr (.inr ⟨hu, _, rfl⟩)

theorem check_leaf {m : Mem} {k : Nat} {w : World} {t : TypeId} {c : KK} {p q : PV} {u : Value} {b : Bool} (hc : (c = .b ∧ P.underlying t = some .bool) ∨ (c = .i ∧ ∃ k, P.underlying t = some (.int k)) ∨ (c = .s ∧ P.underlying t = some .string)) (hp : Rep m k p u) (h : eq1 c p q = some b) (em : Bool) (D : Nat) :
    (Instr.checkKey em (D + 1) t u).run P w = .ok () w := by
  unfold Instr.checkKey
  rcases eq1_key hc hp h with ⟨hu, x, rfl⟩ | ⟨k1, k2, n, hu, rfl⟩ | ⟨hu, s, rfl⟩ <;> simp [run_underlying hu]

theorem forIn_ok {α : Type} {w : World} (f : α → PUnit → Sem (ForInStep PUnit)) : ∀ (l : List α), (∀ x ∈ l, (f x ⟨⟩).run P w = .ok (.yield ⟨⟩) w) → (forIn l PUnit.unit f).run P w = .ok ⟨⟩ w
  | [], _ => by simp
  | x :: l, h => by
    rw [List.forIn_cons]
    simp only [Sem.run_bind, h x (by simp), Result.andThen_ok]
    exact forIn_ok f l (fun y hy => h y (by simp [hy]))

theorem andThen_unit {r : Result PUnit} {w : World} (h : r = .ok ⟨⟩ w) : (r.andThen fun a w' => Sem.run P (pure ()) w') = .ok () w := by rw [h]; rfl

theorem eqL_self_split : ∀ {l rs : List KK} {ps : List PV}, eqL (l ++ rs) ps ps = some true → eqL l (ps.take l.length) (ps.take l.length) = some true ∧ eqL rs (ps.drop l.length) (ps.drop l.length) = some true := fun {l rs ps} h => by
  obtain ⟨b1, b2, h1, h2, h3⟩ := eqL_app h
  cases b1 <;> cases b2 <;> simp at h3
  exact ⟨h1, h2⟩

/-- a key that can be compared with itself is one -/
theorem check_run : ∀ (d : Nat) (t : TypeId) (ks : List KK), flatT P d t = some ks → ∀ (D : Nat), d ≤ D → ∀ {m : Mem} {k : Nat} {w : World} {g : Bool} {ps : List PV} {p : PV} {u : Value} (em : Bool), aggB P t = some g → scal g ps = some p →
    Rep m k p u → eqL ks ps ps = some true → (Instr.checkKey em D t u).run P w = .ok () w
  | 0, t, ks, h, D, hD, m, k, w, g, ps, p, u, em, hg, h1, h3, h5 => by simp [flatT] at h
  | d + 1, t, ks, h, D, hD, m, k, w, g, ps, p, u, em, hg, h1, h3, h5 => by
    obtain ⟨D, rfl⟩ : ∃ D', D = D' + 1 := ⟨D - 1, by omega⟩
    have ih := check_run d
    obtain ⟨g', hg', hleaf⟩ := flatT_agg h
    rw [hg] at hg'
    cases hg'
    cases g with
    | false =>
      obtain ⟨c, rfl, hc⟩ := hleaf rfl
      obtain ⟨l1, l2⟩ := eqL_len h5
      match ps, l1 with
      | [p0], _ =>
        simp [scal] at h1
        subst h1
        simp only [eqL] at h5
        split at h5
        · rename_i x y hx hy
          exact check_leaf hc h3 hx em D
        · cases h5
    | true =>
      simp [scal] at h1
      subst h1
      obtain ⟨xs, rfl, x1, x2⟩ := agg_inv h3
      clear hleaf h3
      have part1 : ∀ (e : TypeId) (l : List KK) (i : TypeInfo) (off : Nat), flatT P d e = some l → P.info? e = some i → i.size = l.length → eqL l ((ps.drop off).take l.length) ((ps.drop off).take l.length) = some true → off + l.length ≤ ps.length →
          ∃ a, (part e xs off).run P w = .ok a w ∧ (Instr.checkKey em D e a).run P w = .ok () w := by
        intro e l i off hl hi hs hb ho1
        obtain ⟨ge, hge, hgl⟩ := flatT_agg hl
        have h1' : ge = true ∨ i.size = 1 := by
          cases ge
          · obtain ⟨c, rfl, _⟩ := hgl rfl
            exact .inr hs
          · exact .inl rfl
        obtain ⟨z1, s1⟩ : ∃ z, scal ge ((ps.drop off).take i.size) = some z := by
          cases ge
          · obtain ⟨c, rfl, _⟩ := hgl rfl
            simp only [List.length_cons, List.length_nil] at hs ho1
            rw [hs, List.drop_eq_getElem_cons (by omega)]
            exact ⟨_, rfl⟩
          · exact ⟨_, rfl⟩
        obtain ⟨a, r1, r2⟩ := run_part (P := P) (w := w) hge hi h1' x1 x2 (by omega) s1
        rw [hs] at s1
        exact ⟨a, r1, ih e l hl D (by omega) em hge s1 r2 hb⟩
      simp only [flatT] at h
      split at h
      · rename_i hu; simp [aggB, hu] at hg
      · rename_i hu; simp [aggB, hu] at hg
      · rename_i hu; simp [aggB, hu] at hg
      · rename_i n e hu
        split at h
        · rename_i l i hl hi
          split at h
          · rename_i hs
            cases h
            have hsz : (sizeOf e).run P w = .ok l.length w := by simp [sizeOf, typeInfo, hi, hs]
            obtain ⟨L1, L2⟩ := eqL_len h5
            have piece : ∀ (r s : Nat), s + r = n → eqL (List.replicate r l).flatten (ps.drop (s * l.length)) (ps.drop (s * l.length)) = some true → ∀ j, s ≤ j → j < n → eqL l ((ps.drop (j * l.length)).take l.length) ((ps.drop (j * l.length)).take l.length) = some true := by
              intro r
              induction r with
              | zero => intro s hs hb j h1 h2; omega
              | succ r ihr =>
                intro s hs hb j h1 h2
                rw [List.replicate_succ, List.flatten_cons] at hb
                obtain ⟨e1, e2⟩ := eqL_self_split hb
                by_cases hj : j = s
                · subst hj; exact e1
                · refine ihr (s + 1) (by omega) ?_ j (by omega) h2
                  rw [List.drop_drop] at e2
                  rw [show (s + 1) * l.length = s * l.length + l.length by rw [Nat.succ_mul]]
                  exact e2
            have pc := piece n 0 (by omega) (by simpa using h5)
            have hbig : ∀ j, j < n → j * l.length + l.length ≤ ps.length := by
              intro j hj
              have e1 := (eqL_len (pc j (by omega) hj)).1
              simp only [List.length_take, List.length_drop] at e1
              rcases Nat.eq_zero_or_pos l.length with h0 | h0
              · rw [h0]; simp
              · omega
            unfold Instr.checkKey
            simp only [Sem.run_bind, run_underlying hu, Result.andThen_ok]
            simp only [Std.Legacy.Range.forIn_eq_forIn_range', Std.Legacy.Range.size, Nat.sub_zero, Nat.add_one_sub_one, Nat.div_one]
            refine andThen_unit (forIn_ok (P := P) (w := w) _ _ (fun j hj => ?_))
            have hj : j < n := by simpa using hj
            obtain ⟨a, r1, r2⟩ := part1 e l i (j * l.length) hl hi hs (pc j (by omega) hj) (hbig j hj)
            simp [hsz, r1, r2]
          · cases h
        · cases h
      · rename_i fs hu
        split at h
        · cases h
        · have key : ∀ (fl : List Field) (off : Nat) (ks : List KK), flatF P (flatT P d) fl off = some ks → eqL ks (ps.drop off) (ps.drop off) = some true →
              ∀ f ∈ fl, f.name ≠ "_" → ∃ a, (part f.type xs f.offset).run P w = .ok a w ∧ (Instr.checkKey em D f.type a).run P w = .ok () w := by
            intro fl
            induction fl with
            | nil => intro off ks hk hb f hf; simp at hf
            | cons f fl ihf =>
              intro off ks hk hb f' hf' hn'
              simp only [flatF] at hk
              split at hk
              · rename_i hn
                split at hk
                · rename_i l i hl hi
                  split at hk
                  · rename_i hs
                    split at hk
                    · rename_i rs hrs
                      cases hk
                      obtain ⟨e1, e2⟩ := eqL_self_split hb
                      have c1 := (eqL_len e1).1
                      simp only [List.length_take, List.length_drop] at c1
                      obtain ⟨hn1, hn2⟩ := hn
                      subst hn2
                      rcases List.mem_cons.1 hf' with rfl | hf'
                      · exact part1 f'.type l i f'.offset hl hi hs.1 e1 (by omega)
                      · exact ihf (f.offset + l.length) rs hrs (by rw [List.drop_drop] at e2; exact e2) f' hf' hn'
                    · cases hk
                  · cases hk
                · cases hk
              · cases hk
          have hk := key fs.toList 0 ks h (by simpa using h5)
          unfold Instr.checkKey
          simp only [Sem.run_bind, run_underlying hu, Result.andThen_ok]
          rw [← Array.forIn_toList]
          refine andThen_unit (forIn_ok (P := P) (w := w) _ _ (fun f hf => ?_))
          by_cases hn : f.name ≠ "_"
          · obtain ⟨a, r1, r2⟩ := hk f hf hn
            simp [hn, r1, r2]
          · simp [hn]
      · cases h

/-- entries as rows tell them -/
def EntR (m : Mem) (k : Nat) (rows : List (List PV)) (es : List MapEntry) : Prop :=
  es.length = rows.length ∧ ∀ (r : Nat) (row : List PV), rows[r]? = some row → ∃ kp vp e, row = [kp, vp] ∧ es[r]? = some e ∧ Rep m k kp e.key ∧ Rep m k vp e.val

theorem EntR.cons {m : Mem} {k : Nat} {row : List PV} {rows : List (List PV)} {e : MapEntry} {es : List MapEntry} (h : EntR m k (row :: rows) (e :: es)) :
    (∃ kp vp, row = [kp, vp] ∧ Rep m k kp e.key ∧ Rep m k vp e.val) ∧ EntR m k rows es := by
  refine ⟨?_, by simpa using h.1, fun r row' hr => ?_⟩
  · obtain ⟨kp, vp, e', h1, h2, h3, h4⟩ := h.2 0 row rfl
    simp at h2; subst h2
    exact ⟨kp, vp, h1, h3, h4⟩
  · obtain ⟨kp, vp, e', h1, h2, h3, h4⟩ := h.2 (r + 1) row' (by simpa using hr)
    exact ⟨kp, vp, e', h1, by simpa using h2, h3, h4⟩

/-- what a search finds -/
def Found (m : Mem) (k : Nat) (ks : List KK) (ag : Bool) (kc : List PV) (es : List MapEntry) (i0 : Nat) : Option (Nat × PV) → Option (Nat × Value) → Prop
  | none, none => True
  | some (i, vp), some (j, v) => i = j ∧ i0 ≤ i ∧ ∃ e kp cs, es[i - i0]? = some e ∧ e.val = v ∧ Rep m k vp v ∧ Rep m k kp e.key ∧ keyC ag kp = some cs ∧ eqL ks kc cs = some true
  | _, _ => False

theorem Found.shift {m : Mem} {k : Nat} {ks : List KK} {ag : Bool} {kc : List PV} {e : MapEntry} {es : List MapEntry} {i0 : Nat} : ∀ {r : Option (Nat × PV)} {r' : Option (Nat × Value)}, Found m k ks ag kc es (i0 + 1) r r' → Found m k ks ag kc (e :: es) i0 r r'
  | none, none, _ => trivial
  | some (i, vp), some (j, v), ⟨h1, h2, e', kp, cs, h3, h4⟩ => ⟨h1, by omega, e', kp, cs, by rw [show i - i0 = (i - (i0 + 1)) + 1 by omega]; simpa using h3, h4⟩
  | none, some _, h => h.elim
  | some _, none, h => h.elim

theorem sameNow_run {m : Mem} {k k' : Nat} {t : TypeId} {c : KK} {p q : PV} {u v : Value} {b : Bool} {d : TypeDesc} (hd : P.underlying t = some d) (hc : (c = .b ∧ P.underlying t = some .bool) ∨ (c = .i ∧ ∃ k, P.underlying t = some (.int k)) ∨ (c = .s ∧ P.underlying t = some .string))
    (hp : Rep m k p u) (hq : Rep m k' q v) (h : eq1 c p q = some b) : Instr.sameNow d u v = some b := by
  rcases hc with ⟨rfl, hu⟩ | ⟨rfl, k1, hu⟩ | ⟨rfl, hu⟩ <;> rw [hd] at hu <;> cases hu
  · cases p <;> cases q <;> simp [eq1] at h
    rw [bool_inv hp, bool_inv hq]
    simp [Instr.sameNow, ← h]
  · cases p <;> cases q <;> simp [eq1] at h
    obtain ⟨rfl, h⟩ := h
    rw [int_inv hp, int_inv hq]
    simp [Instr.sameNow, ← h]
  · cases p <;> cases q <;> simp [eq1] at h
    obtain ⟨s1, rfl, e1⟩ := str_inv hp
    obtain ⟨s2, rfl, e2⟩ := str_inv hq
    simp only [Instr.sameNow]
    rw [beq_toListBytes, bytes_toList, bytes_toList, e1, e2, ← h]

theorem scal_one {ks : List KK} {c : KK} {kc cs : List PV} {b : Bool} (h : ks = [c]) (hb : eqL ks kc cs = some b) : ∃ p q, kc = [p] ∧ cs = [q] ∧ eq1 c p q = some b := by
  subst h
  obtain ⟨l1, l2⟩ := eqL_len hb
  match kc, cs, l1, l2 with
  | [p0], [q0], _, _ =>
    simp only [eqL] at hb
    split at hb
    · rename_i x y hx hy
      cases hb
      cases hy
      exact ⟨p0, q0, rfl, rfl, by simpa using hx⟩
    · cases hb

/-- A KEY IS FOUND WHERE THE PURE READING FINDS IT -/
theorem find_run {K : TypeId} {ks : List KK} {ag : Bool} (hks : flatT P 8 K = some ks) (hag : aggB P K = some ag) {m : Mem} {k k' : Nat} {w : World} {p : PV} {u : Value} {kc : List PV} (hp : Rep m k' p u) (hkc : keyC ag p = some kc) :
    ∀ (rows : List (List PV)) (es : List MapEntry) (i : Nat) (r : Option (Nat × PV)), EntR m k rows es → mfind ks ag kc rows i = some r →
      ∃ r', (if ag = true then (Instr.findAsking K u es i).run P w = .ok r' w else ∀ d, P.underlying K = some d → Instr.findNow d u es i = some r') ∧ Found m k ks ag kc es i r r' := by
  obtain ⟨g', hg', hleaf⟩ := flatT_agg hks
  rw [hag] at hg'
  cases hg'
  intro rows
  induction rows with
  | nil =>
    intro es i r he hm
    have : es = [] := List.length_eq_zero_iff.1 (by simpa using he.1)
    subst this
    simp [mfind] at hm
    subst hm
    refine ⟨none, ?_, trivial⟩
    split
    · simp [Instr.findAsking]
    · intro d _; rfl
  | cons row rows ih =>
    intro es i r he hm
    obtain ⟨e, es', rfl⟩ : ∃ e es', es = e :: es' := by
      cases es with
      | nil => have := he.1; simp at this
      | cons e es' => exact ⟨e, es', rfl⟩
    obtain ⟨⟨kp, vp, rfl, r1, r2⟩, he'⟩ := he.cons
    simp only [mfind] at hm
    split at hm
    · rename_i cs hcs
      -- one comparison
      have cmp : ∀ b, eqL ks kc cs = some b → (if ag = true then (Op.equal K u e.key).run P w = .ok b w else ∀ d, P.underlying K = some d → Instr.sameNow d u e.key = some b) := by
        intro b hb
        cases ag with
        | true =>
          simp only [if_true]
          exact eq_run 8 K ks hks 10000 (by omega) hag (keyC_scal hkc) (keyC_scal hcs) (hp.up (Nat.le_max_left k' k)) (r1.up (Nat.le_max_right k' k)) hb
        | false =>
          simp only [Bool.false_eq_true, if_false]
          intro d hd
          obtain ⟨c, hc1, hc⟩ := hleaf rfl
          obtain ⟨x, y, rfl, rfl, hxy⟩ := scal_one hc1 hb
          have s1 := keyC_scal hkc
          have s2 := keyC_scal hcs
          simp [scal] at s1 s2
          subst s1 s2
          exact sameNow_run hd hc hp r1 hxy
      split at hm
      · rename_i hb
        cases hm
        have := cmp true hb
        refine ⟨some (i, e.val), ?_, rfl, Nat.le_refl _, e, kp, cs, by simp, rfl, r2, r1, hcs, hb⟩
        split
        · rename_i hg
          rw [if_pos hg] at this
          simp [Instr.findAsking, this]
        · rename_i hg
          rw [if_neg hg] at this
          intro d hd
          simp [Instr.findNow, this d hd]
      · rename_i hb
        have := cmp false hb
        obtain ⟨r', h1, h2⟩ := ih es' (i + 1) r he' hm
        refine ⟨r', ?_, h2.shift⟩
        split
        · rename_i hg
          rw [if_pos hg] at this h1
          simp [Instr.findAsking, this, h1]
        · rename_i hg
          rw [if_neg hg] at this h1
          intro d hd
          simp [Instr.findNow, this d hd, h1 d hd]
      · cases hm
    · cases hm

theorem find_key {K : TypeId} {ks : List KK} {ag : Bool} (hks : flatT P 8 K = some ks) (hag : aggB P K = some ag) {m : Mem} {k k' : Nat} {w : World} {p : PV} {u : Value} {kc : List PV} (hp : Rep m k' p u) (hkc : keyC ag p = some kc)
    {rows : List (List PV)} {es : List MapEntry} {r : Option (Nat × PV)} (he : EntR m k rows es) (hm : mfind ks ag kc rows 0 = some r) :
    ∃ r', (Instr.findKey K u es).run P w = .ok r' w ∧ Found m k ks ag kc es 0 r r' := by
  obtain ⟨r', h1, h2⟩ := find_run (w := w) hks hag hp hkc rows es 0 r he hm
  refine ⟨r', ?_, h2⟩
  obtain ⟨d, hd⟩ : ∃ d, P.underlying K = some d := by
    unfold aggB at hag
    cases hu : P.underlying K with
    | none => rw [hu] at hag; cases hag
    | some d => exact ⟨d, rfl⟩
  cases ag with
  | true =>
    simp only [if_true] at h1
    rw [run_findKey_eq, h1]
    unfold aggB at hag
    rw [hd] at hag ⊢
    cases d <;> simp at hag ⊢
  | false =>
    simp only [Bool.false_eq_true, if_false] at h1
    exact MapKept.run_findKey hd (h1 d hd)

theorem pur_mget {t : TypeId} {x y : Operand} {ok : Bool} (h : o.op = .lookup t x y ok) : PurSound P call own o := by
  intro ao B k m w sl bl BL a p ns next Q hd he hl hin hn
  simp only [digOp, h] at hd
  split at hd
  · rename_i K E am ak hu hm hk
    have rx := opd (a := a) (m := m) (k := k) (sl := sl) hm (fun t ht => hl t (by simp [h, Op.operands, ht]))
    have ry := opd (a := a) (m := m) (k := k) (sl := sl) hk (fun t ht => hl t (by simp [h, Op.operands, ht]))
    split at hd
    · rename_i ks ag zp hks hag hz
      · cases hd
        simp only [evPur] at he
        split at he
        · rename_i kc rows hkc hrows
          split at he
          · rename_i hself
            have hchk : ∀ em, (Instr.checkKey em 10000 K (a.eval y)).run P w = .ok () w := fun em => check_run 8 K ks hks 10000 (by omega) em hag (keyC_scal hkc) ry hself
            obtain ⟨i, zv, hi, hzv, hzr⟩ := zeroS_spec hz
            have hzero : (zeroValue E).run P w = .ok zv w := by simp [zeroValue, typeInfo, hi, hzv]
            have hzrep : Rep m k zp zv := hzr m k
            -- the map
            have hmap : ∃ es : Array MapEntry, EntR m k rows es.toList ∧ (a.eval x = .map none ∧ es = #[] ∨ ∃ r clock, a.eval x = .map (some r) ∧ w.heap[r]? = some (.map es clock)) := by
              unfold mapRows at hrows
              split at hrows
              · rename_i b ver hv
                split at hrows
                · rename_i bx hgm
                  cases hrows
                  rw [hv] at rx
                  obtain ⟨inf, g1, g2, g3, g4, g5⟩ := mp_inv rx
                  obtain ⟨q1, q2, q3⟩ := getM_spec hgm
                  have hat := (hin.own.at_ b bx inf (hin.old q1) g2).map q3
                  obtain ⟨es, clock, e1, e2, _⟩ := hat.mem
                  refine ⟨es, ⟨by simpa using e2.1, fun r row hr => ?_⟩, .inr ⟨inf.g, clock, g5 (hat.ver.trans q2), e1⟩⟩
                  obtain ⟨kp, vp, e, f1, f2, f3, f4⟩ := e2.2 r row hr
                  refine ⟨kp, vp, e, f1, by simpa using f2, ?_, ?_⟩
                  · split at f3
                    · exact f3.up (Nat.zero_le _)
                    · exact f3
                  · split at f4
                    · exact f4.up (Nat.zero_le _)
                    · exact f4
                · cases hrows
              · rename_i hv
                cases hrows
                rw [hv] at rx
                exact ⟨#[], ⟨rfl, fun r row hr => by simp at hr⟩, .inl ⟨v_inv' rx, rfl⟩⟩
              · cases hrows
            obtain ⟨es, hent, hwhere⟩ := hmap
            have hrun : ∀ r', (Instr.findKey K (a.eval y) es.toList).run P w = .ok r' w → (Instr.lookup t (a.eval x) (a.eval y) ok).run P w = .ok (let q := match r' with | some (_, v) => (v, true) | none => (zv, false); if ok then .tuple #[q.1, .bool q.2] else q.1) w := by
              intro r' hr'
              rcases hwhere with ⟨e1, rfl⟩ | ⟨r, clock, e1, e2⟩
              · rw [e1]
                cases r' with
                | none => simp [Instr.lookup, run_underlying hu, hchk, hr', hzero, Result.andThen]
                | some q => simp [Instr.lookup, run_underlying hu, hchk, hr', Result.andThen]
              · rw [e1]
                cases r' with
                | none => simp [Instr.lookup, run_underlying hu, MapKept.run_getObj_map e2, hchk, hr', hzero, Result.andThen]
                | some q => simp [Instr.lookup, run_underlying hu, MapKept.run_getObj_map e2, hchk, hr', Result.andThen]
            have hfin : ∀ (q : PV) (v : Value) (b : Bool), Rep m k q v → Rep m k (if ok then .tup [q, .bool b] else q) (if ok then .tuple #[v, .bool b] else v) := by
              intro q v b hq
              cases ok
              · exact hq
              · refine .tup rfl (fun i p hp => ?_)
                match i with
                | 0 => simp at hp; subst hp; exact hq
                | 1 => simp at hp; subst hp; exact .bool
                | i + 2 => simp at hp
            split at he
            · rename_i j vq hfind
              cases he
              obtain ⟨r', f1, f2⟩ := find_key (w := w) hks hag ry hkc hent hfind
              cases r' with
              | none => exact f2.elim
              | some q =>
                obtain ⟨q1, q2⟩ := q
                obtain ⟨_, _, e, kp, cs, _, _, f3, _⟩ := f2
                exact wp_of_run (by simp only [execOp, h]; exact run_value (hrun _ f1)) (hn _ _ _ _ (PurOut.same hin.frz hin.own (hfin _ _ true f3)))
            · rename_i hfind
              cases he
              obtain ⟨r', f1, f2⟩ := find_key (w := w) hks hag ry hkc hent hfind
              cases r' with
              | some q => exact f2.elim
              | none => exact wp_of_run (by simp only [execOp, h]; exact run_value (hrun _ f1)) (hn _ _ _ _ (PurOut.same hin.frz hin.own (hfin _ _ false hzrep)))
            · cases he
          · cases he
        · cases he
    · cases hd
  · cases hd
end
end Go.Proofs.Ytkdalahepedghaa
