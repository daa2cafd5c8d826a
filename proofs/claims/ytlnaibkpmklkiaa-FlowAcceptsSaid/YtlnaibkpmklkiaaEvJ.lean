/- The operations that change no block: values and slices built of parts. -/
import Derived.Test.YtlnaibkpmklkiaaEvI
namespace Go.Proofs.Ytlnaibkpmklkiaa
open Go Go.RowKit
set_option linter.unusedSectionVars false
variable [Bs]
set_option linter.unusedVariables false
set_option linter.unusedSimpArgs false

section
variable {P : Program} {call : Cl} {own : List Nat} {o : Oper}

/-- cells that read as the values cs -/
def RC (m : Mem) (k : Nat) (cs : List PV) (cells : Array Value) : Prop := cs.length = cells.size ∧ ∀ (j : Nat) (p : PV), cs[j]? = some p → ∃ v, cells[j]? = some v ∧ v.oneCell' = true ∧ Rep m k p v

theorem foldl_set (off : Nat) : ∀ (l : List Value) (s : Nat) (cells : Array Value),
    ((l.zipIdx s).foldl (fun cs x => cs.setIfInBounds (off + x.2) x.1) cells).size = cells.size ∧
    ∀ t : Nat, ((l.zipIdx s).foldl (fun cs x => cs.setIfInBounds (off + x.2) x.1) cells)[t]? = if off + s ≤ t ∧ t < off + s + l.length ∧ t < cells.size then l[t - (off + s)]? else cells[t]?
  | [], s, cells => ⟨rfl, fun t => by simp; omega⟩
  | v :: l, s, cells => by
    obtain ⟨h1, h2⟩ := foldl_set off l (s + 1) (cells.setIfInBounds (off + s) v)
    simp only [List.zipIdx_cons, List.foldl_cons]
    refine ⟨by rw [h1]; simp, fun t => ?_⟩
    rw [h2 t]
    simp only [Array.size_setIfInBounds, List.length_cons]
    by_cases ht : t = off + s
    · subst ht
      by_cases hlt : off + s < cells.size
      · rw [if_neg (by omega), if_pos (by omega)]
        simp [hlt]
      · rw [if_neg (by omega), if_neg (by omega)]
        simp [Array.getElem?_eq_none (Nat.le_of_not_lt hlt)]
        omega
    · have hne : off + s ≠ t := fun e => ht e.symm
      rw [Array.getElem?_setIfInBounds_ne hne]
      by_cases hc : off + (s + 1) ≤ t ∧ t < off + (s + 1) + l.length ∧ t < cells.size
      · rw [if_pos hc, if_pos (by omega)]
        rw [show t - (off + s) = t - (off + (s + 1)) + 1 by omega]
        simp
      · rw [if_neg hc, if_neg (by omega)]

theorem fill_step {m : Mem} {k : Nat} {cs q : List PV} {cells qs : Array Value} {off : Nat} (h : RC m k cs cells) (hq : RC m k q qs) (hle : off + q.length ≤ cs.length) :
    RC m k (cs.take off ++ q ++ cs.drop (off + q.length)) (qs.zipIdx.foldl (fun cs x => cs.setIfInBounds (off + x.2) x.1) cells) := by
  have hz : qs.zipIdx.foldl (fun cs x => cs.setIfInBounds (off + x.2) x.1) cells = (qs.toList.zipIdx 0).foldl (fun cs x => cs.setIfInBounds (off + x.2) x.1) cells := by
    rw [← Array.foldl_toList, Array.toList_zipIdx]
  rw [hz]
  obtain ⟨h1, h2⟩ := foldl_set off qs.toList 0 cells
  have hql : q.length = qs.toList.length := by simpa using hq.1
  refine ⟨by rw [h1]; simp; have := h.1; omega, fun j p hj => ?_⟩
  rw [h2 j]
  have hcs := h.1
  by_cases hj1 : j < off
  · rw [List.append_assoc, List.getElem?_append_left (by simp; omega), List.getElem?_take_of_lt hj1] at hj
    rw [if_neg (by omega)]
    exact h.2 j p hj
  · by_cases hj2 : j < off + q.length
    · rw [List.append_assoc, List.getElem?_append_right (by simp; omega), List.getElem?_append_left (by simp; omega)] at hj
      rw [if_pos (by omega)]
      have hmin : min off cs.length = off := by omega
      simp only [List.length_take, hmin] at hj
      obtain ⟨v, hv, hr⟩ := hq.2 _ p hj
      exact ⟨v, by simpa using hv, hr⟩
    · rw [List.getElem?_append_right (by simp; omega)] at hj
      rw [if_neg (by omega)]
      simp only [List.length_append, List.length_take, List.getElem?_drop] at hj
      rw [show off + q.length + (j - (min off cs.length + q.length)) = j by omega] at hj
      exact h.2 j p hj

theorem fill_rep {m : Mem} {k : Nat} {place : Nat → Option (Nat × Nat)} : ∀ (parts : List (Nat × Value)) (pp : List (Nat × Nat × PV)) (cells : Array Value) (cs cs' : List PV), parts.length = pp.length →
    (∀ (i : Nat) (x : Nat × Value) (y : Nat × Nat × PV), parts[i]? = some x → pp[i]? = some y → place x.1 = some (y.1, y.2.1) ∧ Rep m k y.2.2 x.2) → RC m k cs cells → fillP cs pp = some cs' →
      ∃ cells', Instr.fill place cells parts = some cells' ∧ RC m k cs' cells'
  | [], pp, cells, cs, cs', hl, _, h, hf => by
    have : pp = [] := List.eq_nil_of_length_eq_zero (by simpa using hl.symm)
    subst this
    simp [fillP] at hf
    subst hf
    exact ⟨cells, rfl, h⟩
  | (i, v) :: parts, pp, cells, cs, cs', hl, hp, h, hf => by
    cases pp with
    | nil => simp at hl
    | cons y pp =>
      obtain ⟨off, n, p⟩ := y
      obtain ⟨h1, h2⟩ := hp 0 (i, v) (off, n, p) rfl rfl
      simp only [fillP] at hf
      split at hf
      · rename_i hc
        obtain ⟨c1, c2⟩ := cells_rep h2 hc.2.2
        have hst := fill_step (off := off) h (⟨c1.symm, c2⟩ : RC m k p.cells v.cells) (by rw [hc.1]; exact hc.2.1)
        rw [hc.1] at hst
        obtain ⟨cells', e1, e2⟩ := fill_rep parts pp _ _ cs' (by simpa using hl) (fun i x y hx hy => hp (i + 1) x y (by simpa using hx) (by simpa using hy)) hst hf
        refine ⟨cells', ?_, e2⟩
        simp only at h1
        simp only [Instr.fill, h1]
        rw [if_neg (by
          have := h.1
          have c3 : v.cells.size = n := by rw [c1]; exact hc.1
          have c4 := hc.2.1
          simp only [Bool.or_eq_true, decide_eq_true_eq, not_or]
          exact ⟨by simp [c3], by omega⟩)]
        exact e1
      · cases hf

theorem run_mapM {α β : Type} {f : α → Sem β} {g : α → β} {w : World} : ∀ (l : List α), (∀ x ∈ l, (f x).run P w = .ok (g x) w) → (l.mapM f).run P w = .ok (l.map g) w
  | [], _ => by simp
  | x :: l, h => by
    have h1 := h x (by simp)
    have h2 := run_mapM l (fun y hy => h y (by simp [hy]))
    rw [List.mapM_cons]
    simp [h1, h2]

theorem digParts_spec {fs : Array Field} {m : Mem} {k : Nat} {sl : List PV} {a : Act} : ∀ (l : List (Nat × Operand)) (pp : List (Nat × Nat × AO)), digParts P fs l = some pp → (∀ t, Operand.tmp t ∈ l.map (·.2) → Rep m k (sl.getD t .top) (a.tmps.getD t undef)) →
    (l.map fun x => (x.1, a.eval x.2)).length = (pp.map fun q => (q.1, q.2.1, q.2.2.ev sl)).length ∧
    ∀ (i : Nat) (x : Nat × Value) (y : Nat × Nat × PV), (l.map fun x => (x.1, a.eval x.2))[i]? = some x → (pp.map fun q => (q.1, q.2.1, q.2.2.ev sl))[i]? = some y →
      (∃ f ti, fs[x.1]? = some f ∧ P.info? f.type = some ti ∧ y.1 = f.offset ∧ y.2.1 = ti.size) ∧ Rep m k y.2.2 x.2
  | [], pp, h, _ => by simp [digParts] at h; subst h; exact ⟨rfl, fun i x y hx => by simp at hx⟩
  | (j, x) :: l, pp, h, hl => by
    simp only [digParts] at h
    split at h
    · rename_i f hf
      split at h
      · rename_i ti ax axs h1 h2 h3
        cases h
        obtain ⟨e1, e2⟩ := digParts_spec l axs h3 (fun t ht => hl t (by simp at ht ⊢; exact .inr ht))
        refine ⟨by simpa using e1, fun i y z hy hz => ?_⟩
        cases i with
        | zero =>
          simp at hy hz
          subst hy hz
          exact ⟨⟨f, ti, hf, h1, rfl, rfl⟩, opd h2 (fun t ht => hl t (by simp [ht]))⟩
        | succ i => exact e2 i y z (by simpa using hy) (by simpa using hz)
      · cases h
    · cases h

theorem digEls_spec {m : Mem} {k : Nat} {sl : List PV} {a : Act} : ∀ (l : List (Nat × Operand)) (pp : List (Nat × AO)), digEls l = some pp → (∀ t, Operand.tmp t ∈ l.map (·.2) → Rep m k (sl.getD t .top) (a.tmps.getD t undef)) →
    l.length = pp.length ∧ ∀ (i : Nat) (x : Nat × Operand) (y : Nat × AO), l[i]? = some x → pp[i]? = some y → x.1 = y.1 ∧ Rep m k (y.2.ev sl) (a.eval x.2)
  | [], pp, h, _ => by simp [digEls] at h; subst h; exact ⟨rfl, fun i x y hx => by simp at hx⟩
  | (j, x) :: l, pp, h, hl => by
    simp only [digEls] at h
    split at h
    · rename_i ax axs h2 h3
      cases h
      obtain ⟨e1, e2⟩ := digEls_spec l axs h3 (fun t ht => hl t (by simp at ht ⊢; exact .inr ht))
      refine ⟨by simpa using e1, fun i y z hy hz => ?_⟩
      cases i with
      | zero =>
        simp at hy hz
        subst hy hz
        exact ⟨rfl, opd h2 (fun t ht => hl t (by simp at ht; subst ht; simp))⟩
      | succ i => exact e2 i y z (by simpa using hy) (by simpa using hz)
    · cases h

theorem RC.agg {m : Mem} {k : Nat} {cs : List PV} {cells : Array Value} (h : RC m k cs cells) : Rep m k (.agg cs) (.agg cells) :=
  .agg h.1 (fun j p hj => by
    obtain ⟨v, hv, _, hr⟩ := h.2 j p hj
    rw [Array.getD_eq_getD_getElem?, hv]
    exact hr)

theorem zero_rc {m : Mem} {k : Nat} {zv : Value} (hleaf : (zv.cells.toList.map ofVal).all PV.leaf = true) : RC m k (zv.cells.toList.map ofVal) zv.cells :=
  ⟨by simp, fun j p hj => by obtain ⟨v, h1, h2, h3⟩ := zero_cells (m := m) hleaf hj; exact ⟨v, h1, h2, h3.up (Nat.zero_le _)⟩⟩

theorem pur_build {t : TypeId} {ps : Array (Nat × Operand)} (h : o.op = .build t ps) : PurSound P call own o := by
  intro ao B k m w sl bl BL a p ns next Q hd he hl hin hn
  simp only [digOp, h] at hd
  have hop : ∀ t, Operand.tmp t ∈ ps.toList.map (·.2) → Rep m k (sl.getD t .top) (a.tmps.getD t undef) := fun t ht => hl t (by rw [h]; simp only [Op.operands]; simpa using ht)
  have hpl : (ps.map fun (i, x) => (i, a.eval x)).toList = ps.toList.map fun x => (x.1, a.eval x.2) := by simp
  split at hd
  · rename_i fs hu
    split at hd
    · rename_i z aa hz hp
      split at hd
      · rename_i hall
        cases hd
        simp only [evPur] at he
        split at he
        · rename_i cs hf
          cases he
          obtain ⟨i, zv, hi, hzv, rfl, hsz, hleaf, hlt⟩ := zeroP_spec hz
          obtain ⟨e1, e2⟩ := digParts_spec (m := m) (k := k) (sl := sl) (a := a) ps.toList aa hp hop
          have hmap : (fs.mapM fun f => (do pure (f.offset, ← sizeOf f.type) : Sem (Nat × Nat))).run P w = .ok (fs.map fun f => (f.offset, P.cellsOf f.type)) w := by
            rw [Array.mapM_eq_mapM_toList]
            have := run_mapM (P := P) (w := w) (f := fun f : Field => (do pure (f.offset, ← sizeOf f.type) : Sem (Nat × Nat))) (g := fun f => (f.offset, P.cellsOf f.type)) fs.toList (fun f hf => by
              rw [Array.all_eq_true_iff_forall_mem] at hall
              have := hall f (by simpa using hf)
              obtain ⟨j, hj⟩ := Option.isSome_iff_exists.1 this
              simp [sizeOf, typeInfo, hj, Program.cellsOf])
            simp only [Sem.run_map, this, Result.andThen_ok]
            congr 1
            apply Array.ext'
            simp
          obtain ⟨cells', f1, f2⟩ := fill_rep (m := m) (k := k) (place := fun i => (fs.map fun f => (f.offset, P.cellsOf f.type))[i]?) (ps.toList.map fun x => (x.1, a.eval x.2)) (aa.map fun q => (q.1, q.2.1, q.2.2.ev sl)) zv.cells _ cs e1 (fun i x y hx hy => by
            obtain ⟨⟨f, ti, g1, g2, g3, g4⟩, g5⟩ := e2 i x y hx hy
            refine ⟨?_, g5⟩
            simp [g1, g3, g4, Program.cellsOf, g2]) (zero_rc hleaf) hf
          refine wp_of_run (v := .agg cells') ?_ (hn _ _ _ _ (PurOut.same hin.frz hin.own f2.agg))
          simp only [execOp, h]
          refine run_value ?_
          simp only [Instr.build, Sem.run_bind, zeroValue, typeInfo, run_program, Result.andThen_ok, hi, Sem.run_pure, hzv, run_underlying hu, hmap, hpl, f1]
        · cases he
      · cases hd
    · cases hd
  · rename_i n e hu
    split at hd
    · rename_i z i2 aa hz hi2 hp
      cases hd
      simp only [evPur] at he
      split at he
      · rename_i cs hf
        cases he
        obtain ⟨i, zv, hi, hzv, rfl, hsz, hleaf, hlt⟩ := zeroP_spec hz
        obtain ⟨e1, e2⟩ := digEls_spec (m := m) (k := k) (sl := sl) (a := a) ps.toList aa hp hop
        have hsz : (sizeOf e).run P w = .ok i2.size w := by simp [sizeOf, typeInfo, hi2]
        obtain ⟨cells', f1, f2⟩ := fill_rep (m := m) (k := k) (place := fun i => some (i * i2.size, i2.size)) (ps.toList.map fun x => (x.1, a.eval x.2)) _ zv.cells _ cs (by simp [e1]) (fun i x y hx hy => by
          simp only [List.getElem?_map, Option.map_eq_some_iff] at hx hy
          obtain ⟨x0, hx0, rfl⟩ := hx
          obtain ⟨y1, ⟨y0, hy0, rfl⟩, rfl⟩ := hy
          obtain ⟨g1, g2⟩ := e2 i x0 y0 hx0 hy0
          exact ⟨by simp [g1], g2⟩) (zero_rc hleaf) hf
        refine wp_of_run (v := .agg cells') ?_ (hn _ _ _ _ (PurOut.same hin.frz hin.own f2.agg))
        simp only [execOp, h]
        refine run_value ?_
        simp only [Instr.build, Sem.run_bind, zeroValue, typeInfo, run_program, Result.andThen_ok, hi, Sem.run_pure, hzv, run_underlying hu, hsz, hpl, f1]
      · cases he
    · cases hd
  · cases hd

end
end Go.Proofs.Ytlnaibkpmklkiaa
